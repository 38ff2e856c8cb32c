/- The calls of a reader of package bits: what each returns, and what it changes. -/
import Derived.Test.YtdkmeldcpamnnaaDoorRd
import Derived.Test.YtdkmeldcpamnnaaDoorMath
import Derived.Deep.DeepCutAuto
import Derived.Deep.LoopGhost
import Derived.Deep.RegionWith
namespace Go.Proofs.YtdkmeldcpamnnaaDoor
open Go.RowKit

theorem set_drewN (w : World) (n : Nat) (a : Addr) (v : Value) : (w.drewN n).setCell a v = (w.setCell a v).drewN n := rfl

set_option maxHeartbeats 400000 in
theorem next_nat (b : Nat) (s : ByteArray) (pos k : Nat) (w : World) (h : Rd w b s pos) (hk : 1 ≤ k) (hk8 : pos % 8 + k ≤ 8) (hlt : pos + k ≤ 8 * s.size) :
    Calls Tryd.prog 52 #[.pointer (some ⟨b, 0, none⟩), .int .i64 k] w fun e w' => e = .returned (.int .u8 (valOf s pos k)) ∧ Rd w' b s (pos + k) ∧ Only [b] w w' := by
  have H := hid h
  have hp := h.hp
  have hs := h.hs
  have hf := h.hf
  have h1 := h.le
  have h2 := h.sz
  have i1 : (0 : Int) ≤ (pos : Int) / 8 := by omega
  have i2 : (pos : Int) / 8 < (s.size : Int) := by omega
  clear h
  go_enter Tryd.func52, Tryd.ntmps52
  go_wp2
  go_quiet (fail)
  go_wp2
  go_ret
  refine ⟨ret_int ?_, ?_, ?_⟩
  · rw [← next_val s pos k hk8]
    have e : s.data.getD (pos / 8) 0 = s[pos / 8] := by
      have hz : pos / 8 < s.data.size := by show pos / 8 < s.size; omega
      rw [Array.getD_eq_getD_getElem?, Array.getElem?_eq_getElem hz]; rfl
    rw [e]
    simp [Int.natCast_ediv, Int.natCast_emod, Int.natCast_mul, Int.natCast_pow]
  · have := (H.out.set (pos + k) hlt)
    rw [Int.natCast_add] at this
    exact ⟨this.hs, this.hp, this.hf, this.le, this.sz⟩
  · exact ((Only.refl _ _).drewN _).setCell (.inl (by simp)) _
theorem next_any (b : Nat) (s : ByteArray) (pos : Nat) (k : Int) (w : World) (h : Rd w b s pos) (hk : 1 ≤ k) (hk8 : (pos : Int) % 8 + k ≤ 8) (hlt : (pos : Int) + k ≤ 8 * s.size) :
    Calls Tryd.prog 52 #[.pointer (some ⟨b, 0, none⟩), .int .i64 k] w fun e w' => e = .returned (.int .u8 (valOf s pos k.toNat)) ∧ Rd w' b s (pos + k.toNat) ∧ Only [b] w w' := by
  obtain ⟨j, rfl⟩ := Int.eq_ofNat_of_zero_le (show 0 ≤ k by omega)
  exact next_nat b s pos j w h (by omega) (by omega) (by omega)
end Go.Proofs.YtdkmeldcpamnnaaDoor

/- Copy of a reader of the reference. -/
import Derived.Test.YtdkmeldcpamnnaaDoorRr
namespace Go.Proofs.YtdkmeldcpamnnaaDoor
open Go.RowKit

set_option maxHeartbeats 400000 in
theorem rcopy_any (b : Nat) (s : ByteArray) (pos : Nat) (w : World) (h : Rd w b s pos) :
    Calls Tryd.prog 43 #[.pointer (some ⟨b, 0, none⟩)] w fun e w' => e = .returned (.pointer (some ⟨w.heap.size, 0, none⟩)) ∧ Rd w' w.heap.size s pos ∧ Only [] w w' := by
  have hp := h.hp
  have hs := h.hs
  have h1 := h.le
  have h2 := h.sz
  clear h
  go_enter Tryd.func43, Tryd.ntmps43
  go_wp2
  go_region
  all_goals
    go_wp2
    go_ret
    exact ⟨rfl, ⟨by simp, by simp, by simp, h1, h2⟩, ((Only.refl _ _).drew).alloc _⟩

set_option maxHeartbeats 400000 in
theorem rcopy_nil (w : World) : Calls Tryd.prog 43 #[.pointer none] w fun e w' => e = .returned (.pointer none) ∧ w = w' := by
  go_enter Tryd.func43, Tryd.ntmps43
  go_wp2
  go_ret
  exact ⟨rfl, rfl⟩
end Go.Proofs.YtdkmeldcpamnnaaDoor

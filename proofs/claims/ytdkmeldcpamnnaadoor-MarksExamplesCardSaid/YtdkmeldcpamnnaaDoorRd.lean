/- The calls of a reader of package bits: what each returns, and what it changes. -/
import Derived.Test.YtdkmeldcpamnnaaDoorRows
import Derived.Test.YtdkmeldcpamnnaaDoorObj
import Derived.RegionTactic
import Derived.ChangeAlike
import Derived.Deep.QuietTactic
import Derived.BigQuiet
namespace Go.Proofs.YtdkmeldcpamnnaaDoor
open Go.RowKit

set_option maxHeartbeats 400000 in
theorem read_any (s : ByteArray) (w : World) (hs : s.size ≤ 140737488351232) :
    Calls Tryd.prog 33 #[.string s] w fun e w' => e = .returned (.pointer (some ⟨w.heap.size, 0, none⟩)) ∧ Rd w' w.heap.size s 0 ∧ Only [] w w' := by
  go_enter Tryd.func33, Tryd.ntmps33
  go_wp2
  go_ret
  exact ⟨rfl, ⟨by simp, by simp, by simp, by omega, hs⟩, (Only.refl _ _).alloc _⟩

set_option maxHeartbeats 400000 in
theorem pos_any (b : Nat) (s : ByteArray) (pos : Nat) (w : World) (h : Rd w b s pos) :
    Calls Tryd.prog 25 #[.pointer (some ⟨b, 0, none⟩)] w fun e w' => e = .returned (.int .i64 pos) ∧ w = w' := by
  have hp := h.hp
  clear h
  go_enter Tryd.func25, Tryd.ntmps25
  go_wp2
  go_ret
  exact ⟨rfl, rfl⟩

set_option maxHeartbeats 400000 in
theorem left_any (b : Nat) (s : ByteArray) (pos : Nat) (w : World) (h : Rd w b s pos) :
    Calls Tryd.prog 51 #[.pointer (some ⟨b, 0, none⟩)] w fun e w' => e = .returned (.int .i64 (8 * (s.size : Int) - (pos : Int))) ∧ ∃ n, w' = w.drewN n := by
  have hp := h.hp
  have hs := h.hs
  have h1 := h.le
  have h2 := h.sz
  clear h
  go_enter Tryd.func51, Tryd.ntmps51
  go_wp2
  go_quiet (fail)
  go_wp2
  go_ret
  exact ⟨rfl, _, rfl⟩

set_option maxHeartbeats 400000 in
theorem copy_any (b : Nat) (s : ByteArray) (pos : Nat) (w : World) (h : Rd w b s pos) :
    Calls Tryd.prog 54 #[.pointer (some ⟨b, 0, none⟩)] w fun e w' => e = .returned (.pointer (some ⟨w.heap.size, 0, none⟩)) ∧ Rd w' w.heap.size s pos ∧ Only [] w w' := by
  have hp := h.hp
  have hs := h.hs
  have h1 := h.le
  have h2 := h.sz
  clear h
  go_enter Tryd.func54, Tryd.ntmps54
  go_wp2
  go_region
  all_goals
    go_wp2
    go_ret
    exact ⟨rfl, ⟨by simp, by simp, by simp, h1, h2⟩, ((Only.refl _ _).drew).alloc _⟩
end Go.Proofs.YtdkmeldcpamnnaaDoor

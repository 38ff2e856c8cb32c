/- The program's store: a nil receiver. -/
import Derived.Test.YtkcjehajmofhfaaSeW
namespace Go.Proofs.Ytkcjehajmofhfaa
open Go.RowKit Go.Maps
set_option linter.unusedVariables false

set_option maxRecDepth 100000 in
set_option maxHeartbeats 2000000 in
theorem get_nil (i : Int) (w : World) : Calls Try.prog 19 #[.pointer none, .int .i64 i] w fun e w' => e = .returned (.tuple #[pV p0, sV s0, .int .i64 1]) ∧ Only [] w w' := by
  go_enter Try.func19, Try.ntmps19
  go_wp2_with fail
  exact bodyPost_ret (v := .tuple #[pV p0, sV s0, .int .i64 1]) (by simp [results, Try.results19, go_sem, p0, s0]) rfl ⟨rfl, ((Only.refl [] w).alloc _).alloc _⟩
set_option maxHeartbeats 2000000 in
theorem puts_none (x : SV) (w : World) : Calls Try.prog 10 #[.pointer none, sV x] w fun e w' => e = .returned (.int .i64 1) ∧ Only [] w w' := by
  go_enter Try.func10, Try.ntmps10
  go_wp2_with fail
  go_ret
  exact ⟨rfl, (Only.refl [] w).alloc _⟩
set_option maxHeartbeats 2000000 in
theorem putp_none (x : PV) (w : World) : Calls Try.prog 12 #[.pointer none, pV x] w fun e w' => e = .returned (.int .i64 1) ∧ Only [] w w' := by
  go_enter Try.func12, Try.ntmps12
  go_wp2_with fail
  go_ret
  exact ⟨rfl, (Only.refl [] w).alloc _⟩
set_option maxHeartbeats 2000000 in
theorem copy_nil (w : World) : Calls Try.prog 15 #[.pointer none] w fun e w' => e = .returned (.pointer none) ∧ Only [] w w' := by
  go_enter Try.func15, Try.ntmps15
  go_wp2_with fail
  go_ret
  exact ⟨rfl, Only.refl [] w⟩
end Go.Proofs.Ytkcjehajmofhfaa

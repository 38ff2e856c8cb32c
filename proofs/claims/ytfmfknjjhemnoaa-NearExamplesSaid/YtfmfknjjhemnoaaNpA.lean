/- The program's New, Next, at, find. -/
import Derived.Test.YtfmfknjjhemnoaaNrM
namespace Go.Proofs.Ytfmfknjjhemnoaa
open Go.RowKit
set_option linter.unusedVariables false
set_option linter.unusedSimpArgs false

/-- What New takes. -/
def okN (f wd : Int) : Prop := 0 ≤ f ∧ f < 8160 ∧ 1 ≤ wd ∧ wd ≤ 128
theorem new_no (f wd : Int) (w : World) (h : ¬ okN f wd) : Calls Try.prog 10 #[.int .i64 f, .int .i64 wd] w fun e w' => e = .returned (.tuple #[.pointer none, .int .i64 3]) ∧ w' = w := by
  unfold okN at h
  by_cases h1 : f < 0
  · clear h
    go_enter Try.func10, Try.ntmps10
    go_wp2_with fail
    go_ret2
    exact ⟨rfl, rfl⟩
  by_cases h2 : f ≥ 8160
  · clear h
    go_enter Try.func10, Try.ntmps10
    go_wp2_with fail
    go_ret2
    exact ⟨rfl, rfl⟩
  by_cases h3 : wd < 1
  · clear h
    go_enter Try.func10, Try.ntmps10
    go_wp2_with fail
    go_ret2
    exact ⟨rfl, rfl⟩
  have h4 : wd > 128 := by omega
  clear h
  go_enter Try.func10, Try.ntmps10
  go_wp2_with fail
  go_ret2
  exact ⟨rfl, rfl⟩
theorem new_yes (f wd : Int) (w : World) (h : okN f wd) : Calls Try.prog 10 #[.int .i64 f, .int .i64 wd] w fun e w' => e = .returned (.tuple #[.pointer (some ⟨w.heap.size, 0, none⟩), .int .i64 0]) ∧ w' = w.alloc (.cells (nrC f wd (.slice none 0 0)).toArray 59) := by
  obtain ⟨a1, a2, a3, a4⟩ := h
  have h1 : ¬ f < 0 := by omega
  have h2 : ¬ f ≥ 8160 := by omega
  have h3 : ¬ wd < 1 := by omega
  have h4 : ¬ wd > 128 := by omega
  clear a1 a2 a3 a4
  go_enter Try.func10, Try.ntmps10
  go_wp2_with fail
  go_ret2
  exact ⟨rfl, rfl⟩
/-- What can be read of an object. -/
structure NRead (T : TypeId) (w : World) (nb : Nat) (f wd : Int) (ms : List MV) (sv : SlV) (els : List El) : Prop where
  b : Blk w nb T (nrC f wd sv.sl).toArray
  h : HoldsG elC 29 w sv.sl els
  m : els.map (·.1) = ms
  e : ∀ e, e ∈ els → EAt w e
theorem NAt.read {T : TypeId} {F : Nat → Prop} {w : World} {nb : Nat} {f wd : Int} {ms : List MV} (h : NAt T F w nb f wd ms) : ∃ sv els, NRead T w nb f wd ms sv els := by
  obtain ⟨sv, els, h1, h2, h3, h4, h5⟩ := h.own
  exact ⟨sv, els, h1, h2.holds elC_ok, h3, fun e he => (h5 e he).now⟩
theorem NRead.only0 {T : TypeId} {w w' : World} {nb : Nat} {f wd : Int} {ms : List MV} {sv : SlV} {els : List El} (h : NRead T w nb f wd ms sv els) (k : Only [] w w') : NRead T w' nb f wd ms sv els :=
  ⟨h.b.only k (by simp), h.h.only0 k, h.m, fun e he => (h.e e he).only0 k⟩
theorem NRead.sl {T : TypeId} {w : World} {nb : Nat} {f wd : Int} {ms : List MV} {sv : SlV} {els : List El} (h : NRead T w nb f wd ms sv els) : ∃ a c, sv.sl = .slice a ms.length c ∧ els.length = ms.length := by
  obtain ⟨a, c, e, _⟩ := h.h
  have : els.length = ms.length := by rw [← h.m, List.length_map]
  exact ⟨a, c, by rw [e, this], this⟩
theorem next_any {F : Nat → Prop} {nb : Nat} {f wd : Int} {ms : List MV} (w : World) (h : NAt 59 F w nb f wd ms) : Calls Try.prog 18 #[.pointer (some ⟨nb, 0, none⟩)] w fun e w' => e = .returned (.int .i64 (f + ms.length)) ∧ Only [] w w' := by
  obtain ⟨sv, els, r⟩ := h.read
  obtain ⟨a, c, e, _⟩ := r.sl
  have c0 := r.b.cell (i := 0) (v := .int .i64 f) rfl
  have c2 := r.b.cell (i := 2) (v := .slice a ms.length c) (by rw [← e]; rfl)
  have n0 := h.f0
  have n1 := h.f1
  have n2 : (ms.length : Int) ≤ 8160 := by have := h.n; omega
  clear h r e
  go_enter Try.func18, Try.ntmps18
  go_wp2_with fail
  go_quiet (fail)
  go_wp2_with fail
  go_ret
  exact ⟨rfl, (Only.refl [] w).drewN _⟩
theorem next_nil (w : World) : Calls Try.prog 18 #[.pointer none] w fun e w' => e = .returned (.int .i64 0) ∧ Only [] w w' := by
  go_enter Try.func18, Try.ntmps18
  go_wp2_with fail
  go_ret
  exact ⟨rfl, Only.refl _ _⟩
end Go.Proofs.Ytfmfknjjhemnoaa

/- The program's store: Get. -/
import Derived.Test.YtkcjehajmofhfaaSeQ
namespace Go.Proofs.Ytkcjehajmofhfaa
open Go.RowKit Go.Maps
set_option linter.unusedVariables false

set_option maxRecDepth 100000 in
set_option maxHeartbeats 2000000 in
theorem get_out {w : World} (b : Nat) (i : Int) (hi : i < 0 ∨ 32 ≤ i) :
    Calls Try.prog 19 #[.pointer (some ⟨b, 0, none⟩), .int .i64 i] w fun e w' => e = .returned (.tuple #[pV p0, sV s0, .int .i64 3]) ∧ Only [] w w' := by
  rcases hi with h1 | h1
  · go_enter Try.func19, Try.ntmps19
    go_wp2_with fail
    exact bodyPost_ret (v := .tuple #[pV p0, sV s0, .int .i64 3]) (by simp [results, Try.results19, go_sem, p0, s0]) rfl ⟨rfl, ((Only.refl [] w).alloc _).alloc _⟩
  · have h0 : ¬ i < 0 := by omega
    go_enter Try.func19, Try.ntmps19
    go_wp2_with fail
    exact bodyPost_ret (v := .tuple #[pV p0, sV s0, .int .i64 3]) (by simp [results, Try.results19, go_sem, p0, s0]) rfl ⟨rfl, ((Only.refl [] w).alloc _).alloc _⟩
set_option maxRecDepth 100000 in
set_option maxHeartbeats 2000000 in
theorem get_nopps {w : World} {b : Nat} {m1 m2 : Option Nat} {f : Int → Option SV} {g : Int → Option PV} {n : Nat} (h : St w b m1 m2 f g n) (i : Int) (h1 : 0 ≤ i) (h2 : i < 32) (hg : g i = none) :
    Calls Try.prog 19 #[.pointer (some ⟨b, 0, none⟩), .int .i64 i] w fun e w' => e = .returned (.tuple #[pV p0, sV s0, .int .i64 7]) ∧ Only [] w w' := by
  have c1 : ∀ o1 o2 : Obj, ((w.alloc o1).alloc o2).cell? ⟨b, 1, none⟩ = some (.map m2) := fun o1 o2 => (((Only.refl [] w).alloc o1).alloc o2).cell h.c1 (by simp)
  have L1 := fun o1 o2 : Obj => look_p (w := (w.alloc o1).alloc o2) (MapIn.only h.h2 (((Only.refl [] w).alloc o1).alloc o2) (by simp)) (k := i) (by unfold IntOk; omega) (x := p0) (r := false) (by rw [hg]; rfl) (by rw [hg]; rfl)
  have h0 : ¬ i < 0 := by omega
  clear hg h
  go_enter Try.func19, Try.ntmps19
  go_wp2_with fail
  exact bodyPost_ret (v := .tuple #[pV p0, sV s0, .int .i64 7]) (by simp [results, Try.results19, go_sem, p0, s0]) rfl ⟨rfl, (((Only.refl [] w).alloc _).alloc _).alloc _⟩
set_option maxRecDepth 100000 in
set_option maxHeartbeats 2000000 in
theorem get_nosps {w : World} {b : Nat} {m1 m2 : Option Nat} {f : Int → Option SV} {g : Int → Option PV} {n : Nat} (h : St w b m1 m2 f g n) (i : Int) (h1 : 0 ≤ i) (h2 : i < 32) (p : PV) (hg : g i = some p) (s : SV) (r : Bool) (hs : (f p.sps).getD s0 = s) (hr : (f p.sps).isSome = r) :
    Calls Try.prog 19 #[.pointer (some ⟨b, 0, none⟩), .int .i64 i] w fun e w' => e = .returned (.tuple (if r then #[pV p, sV s, .int .i64 0] else #[pV p0, sV s0, .int .i64 7])) ∧ Only [] w w' := by
  have c1 : ∀ o1 o2 : Obj, ((w.alloc o1).alloc o2).cell? ⟨b, 1, none⟩ = some (.map m2) := fun o1 o2 => (((Only.refl [] w).alloc o1).alloc o2).cell h.c1 (by simp)
  have L1 := fun o1 o2 : Obj => look_p (w := (w.alloc o1).alloc o2) (MapIn.only h.h2 (((Only.refl [] w).alloc o1).alloc o2) (by simp)) (k := i) (by unfold IntOk; omega) (x := p) (r := true) (by rw [hg]; rfl) (by rw [hg]; rfl)
  have c0 : ∀ o1 o2 o3 : Obj, (((w.alloc o1).alloc o2).alloc o3).cell? ⟨b, 0, none⟩ = some (.map m1) := fun o1 o2 o3 => ((((Only.refl [] w).alloc o1).alloc o2).alloc o3).cell h.c0 (by simp)
  have c0' : ∀ o1 o2 o3 o4 : Obj, ((((w.alloc o1).alloc o2).alloc o3).alloc o4).cell? ⟨b, 0, none⟩ = some (.map m1) := fun o1 o2 o3 o4 => (((((Only.refl [] w).alloc o1).alloc o2).alloc o3).alloc o4).cell h.c0 (by simp)
  have hp := (h.a2 i p hg).2
  have ik : IntOk p.sps := by have := okP_id hp; unfold IntOk; omega
  have L2 := fun o1 o2 o3 : Obj => look_s (w := ((w.alloc o1).alloc o2).alloc o3) (MapIn.only h.h1 ((((Only.refl [] w).alloc o1).alloc o2).alloc o3) (by simp)) ik hs hr
  have L3 := fun o1 o2 o3 : Obj => look_s (w := (((w.alloc o1).alloc o2).alloc o3).drew) (MapIn.only h.h1 ((((Only.refl [] w).alloc o1).alloc o2).alloc o3).drew (by simp)) ik hs hr
  have L4 := fun o1 o2 o3 o4 : Obj => look_s (w := ((((w.alloc o1).alloc o2).alloc o3).alloc o4).drew) (MapIn.only h.h1 (((((Only.refl [] w).alloc o1).alloc o2).alloc o3).alloc o4).drew (by simp)) ik hs hr
  have h0 : ¬ i < 0 := by omega
  clear hg h hs hr hp ik
  cases r with
  | false =>
    go_enter Try.func19, Try.ntmps19
    go_wp2_with fail
    go_region
    all_goals
      go_wp2_with fail
      exact bodyPost_ret (v := .tuple #[pV p0, sV s0, .int .i64 7]) (by simp [results, Try.results19, go_sem, p0, s0]) rfl ⟨rfl, by first | exact (((((Only.refl [] w).alloc _).alloc _).alloc _).alloc _).drew | exact (((((Only.refl [] w).alloc _).alloc _).alloc _).alloc _).drew.drew | exact (((((Only.refl [] w).alloc _).alloc _).alloc _).alloc _).drewN _⟩
  | true =>
    go_enter Try.func19, Try.ntmps19
    go_wp2_with fail
    go_region
    all_goals
      go_wp2_with fail
      go_region
      all_goals
        go_wp2_with fail
        exact bodyPost_ret (v := .tuple #[pV p, sV s, .int .i64 0]) (by simp [results, Try.results19, go_sem]) rfl ⟨rfl, by first | exact (((((Only.refl [] w).alloc _).alloc _).alloc _).alloc _).drew | exact (((((Only.refl [] w).alloc _).alloc _).alloc _).alloc _).drew.drew | exact (((((Only.refl [] w).alloc _).alloc _).alloc _).alloc _).drewN _⟩
theorem get_any {w : World} {b : Nat} {L : List Nat} {f : Int → Option SV} {g : Int → Option PV} {n : Nat} (h : StL w b L f g n) (i : Int) {p : PV} {s : SV} {e0 : Int} (hr : getR f g i = (p, s, e0)) :
    Calls Try.prog 19 #[.pointer (some ⟨b, 0, none⟩), .int .i64 i] w fun e w' => e = .returned (.tuple #[pV p, sV s, .int .i64 e0]) ∧ Only [] w w' := by
  obtain ⟨m1, m2, rfl, h⟩ := h
  unfold getR at hr
  by_cases hi : i < 0 ∨ 32 ≤ i
  · rw [if_pos hi] at hr
    cases hr
    exact get_out b i hi
  · rw [if_neg hi] at hr
    cases hg : g i with
    | none =>
      simp only [hg] at hr
      cases hr
      exact get_nopps h i (by omega) (by omega) hg
    | some q =>
      simp only [hg] at hr
      cases hf : f q.sps with
      | none =>
        simp only [hf] at hr
        cases hr
        exact get_nosps h i (by omega) (by omega) q hg _ false rfl (by rw [hf]; rfl)
      | some z =>
        simp only [hf] at hr
        cases hr
        exact get_nosps h i (by omega) (by omega) p hg s true (by rw [hf]; rfl) (by rw [hf]; rfl)
end Go.Proofs.Ytkcjehajmofhfaa

/- The laws' helpers: equality, mod, Plain, pps, sps, has. -/
import Derived.Test.YtjjjfmnhdnajkaaGreatDoorMg13
import Derived.Laws.StructEq
namespace Go.Proofs.YtjjjfmnhdnajkaaGreatDoor
open Go.RowKit Go.Maps
set_option linter.unusedVariables false

theorem eql_s (x y : SV) {r : Bool} (hr : decide (x = y) = r) (w : World) : (binOp .eql 27 (sV x) (sV y)).run Tryz.prog w = .ok (.bool r) w := by
  subst hr
  by_cases h : x = y
  · subst h
    simp only [sV]
    go_simp
  · rw [decide_eq_false h]
    simp only [sV]
    go_simp
    exact fun e0 e1 e2 e3 e4 e5 e6 e7 e8 => h ((SV.eq_iff x y).2 ⟨e0, e1, e2, e3, e4, e5, e6, e7, e8⟩)
theorem eql_p (x y : PV) {r : Bool} (hr : decide (x = y) = r) (w : World) : (binOp .eql 24 (pV x) (pV y)).run Tryz.prog w = .ok (.bool r) w := by
  subst hr
  by_cases h : x = y
  · subst h
    simp only [pV]
    go_simp
  · rw [decide_eq_false h]
    simp only [pV]
    go_simp
    exact fun e0 e1 e2 e3 e4 e5 e6 e7 e8 e9 => h ((PV.eq_iff x y).2 ⟨e0, e1, e2, e3, e4, e5, e6, e7, e8, e9⟩)

theorem same_of {w : World} {a : Addr} {v : Value} (h : (w.cell? a).isSome = true) : (w.setCell a v).cell? a = some v := by
  obtain ⟨u, hu⟩ := Option.isSome_iff_exists.1 h
  exact World.cell?_setCell_same _ _ _ hu
theorem mod_eq (n m : Int) (hm : 0 < m) : (n.tmod m + m) % m = n % m := by
  rw [Int.add_emod_right, Int.tmod_eq_emod]
  split
  · simp
  · have e : (m.natAbs : Int) = m := by omega
    rw [e, Int.sub_emod_right, Int.emod_emod]
def plainS : SV := ⟨77, 0, 10, 0, 4, 4, 1, 1, 1⟩
def plainP : PV := ⟨0, 0, false, 1, 1, 0, 0, 0, false, false⟩
def sK (i r : Int) : SV := ⟨77, 0, 10, i, 4, 4, r, 1, 1⟩
def pK (i o : Int) : PV := ⟨i, o, false, 1, 1, 0, 0, 0, false, false⟩
set_option maxHeartbeats 1000000 in
theorem plain6_any (w : World) : Calls Tryz.prog 5 #[] w fun e w' => e = .returned (sV plainS) ∧ Only [] w w' := by
  go_enter Tryz.func5, Tryz.ntmps5
  go_wp2_with fail
  exact bodyPost_ret (v := sV plainS) (by simp [results, Tryz.results5, go_sem, plainS]) rfl ⟨rfl, (Only.refl [] w).alloc _⟩
set_option maxHeartbeats 1000000 in
theorem plain7_any (w : World) : Calls Tryz.prog 4 #[] w fun e w' => e = .returned (pV plainP) ∧ Only [] w w' := by
  go_enter Tryz.func4, Tryz.ntmps4
  go_wp2_with fail
  exact bodyPost_ret (v := pV plainP) (by simp [results, Tryz.results4, go_sem, plainP]) rfl ⟨rfl, (Only.refl [] w).alloc _⟩
theorem dec3 {p p' : PV} {s s' : SV} {e e' : Int} : decide ((p', s', e') = (p, s, e)) = (decide (p' = p) && decide (s' = s) && decide (e' = e)) := by
  rw [Bool.eq_iff_iff]; simp only [decide_eq_true_eq, Bool.and_eq_true, Prod.mk.injEq, and_assoc]
end Go.Proofs.YtjjjfmnhdnajkaaGreatDoor

/- The laws' helpers: equality, mod, Plain, pps, sps, has. -/
import Derived.Test.YtkcjehajmofhfaaSeG
import Derived.Test.YtkcjehajmofhfaaSeK
import Derived.Laws.StructEq
namespace Go.Proofs.Ytkcjehajmofhfaa
open Go.RowKit Go.Maps
set_option linter.unusedVariables false

theorem eql_s (x y : SV) {r : Bool} (hr : decide (x = y) = r) (w : World) : (binOp .eql 28 (sV x) (sV y)).run Try.prog w = .ok (.bool r) w := by
  subst hr
  by_cases h : x = y
  · subst h
    simp only [sV]
    go_simp
  · rw [decide_eq_false h]
    simp only [sV]
    go_simp
    exact fun e0 e1 e2 e3 e4 e5 e6 e7 e8 => h ((SV.eq_iff x y).2 ⟨e0, e1, e2, e3, e4, e5, e6, e7, e8⟩)
theorem eql_p (x y : PV) {r : Bool} (hr : decide (x = y) = r) (w : World) : (binOp .eql 30 (pV x) (pV y)).run Try.prog w = .ok (.bool r) w := by
  subst hr
  by_cases h : x = y
  · subst h
    simp only [pV]
    go_simp
  · rw [decide_eq_false h]
    simp only [pV]
    go_simp
    exact fun e0 e1 e2 e3 e4 e5 e6 e7 e8 e9 => h ((PV.eq_iff x y).2 ⟨e0, e1, e2, e3, e4, e5, e6, e7, e8, e9⟩)

theorem same_of {w : World} {a : Addr} {v : Value} (h : (w.cell? a).isSome = true) : (w.setCell a v).cell? a = some v := by
  obtain ⟨u, hu⟩ := Option.isSome_iff_exists.1 h
  exact World.cell?_setCell_same _ _ _ hu
theorem mod_eq (n m : Int) (hm : 0 < m) : (n.tmod m + m) % m = n % m := by
  rw [Int.add_emod_right, Int.tmod_eq_emod]
  split
  · simp
  · have e : (m.natAbs : Int) = m := by omega
    rw [e, Int.sub_emod_right, Int.emod_emod]
set_option maxHeartbeats 1000000 in
theorem mod_any (n m : Int) (w : World) (hm : 0 < m) (hm2 : m ≤ 100) : Calls Try.prog 21 #[.int .i64 n, .int .i64 m] w fun e w' => e = .returned (.int .i64 (n % m)) ∧ w = w' := by
  have h1 : -m ≤ n.tmod m := by rw [Int.tmod_eq_emod]; have := Int.emod_nonneg n (show m ≠ 0 by omega); split <;> omega
  have h2 : n.tmod m < m := Int.tmod_lt_of_pos n hm
  have h3 : 0 ≤ n.tmod m + m := by omega
  have h4 : ¬ m = 0 := by omega
  have ME := hid (mod_eq n m hm)
  go_enter Try.func21, Try.ntmps21
  go_wp2_with fail
  go_ret
  exact ⟨ret_int ME.out, rfl⟩

def plainS : SV := ⟨77, 0, 10, 0, 4, 4, 1, 1, 1⟩
def plainP : PV := ⟨0, 0, false, 1, 1, 0, 0, 0, false, false⟩
def sK (i r : Int) : SV := ⟨77, 0, 10, i, 4, 4, r, 1, 1⟩
def pK (i o : Int) : PV := ⟨i, o, false, 1, 1, 0, 0, 0, false, false⟩
set_option maxHeartbeats 1000000 in
theorem plain6_any (w : World) : Calls Try.prog 16 #[] w fun e w' => e = .returned (sV plainS) ∧ Only [] w w' := by
  go_enter Try.func16, Try.ntmps16
  go_wp2_with fail
  exact bodyPost_ret (v := sV plainS) (by simp [results, Try.results16, go_sem, plainS]) rfl ⟨rfl, (Only.refl [] w).alloc _⟩
set_option maxHeartbeats 1000000 in
theorem plain7_any (w : World) : Calls Try.prog 17 #[] w fun e w' => e = .returned (pV plainP) ∧ Only [] w w' := by
  go_enter Try.func17, Try.ntmps17
  go_wp2_with fail
  exact bodyPost_ret (v := pV plainP) (by simp [results, Try.results17, go_sem, plainP]) rfl ⟨rfl, (Only.refl [] w).alloc _⟩
set_option maxRecDepth 100000 in
set_option maxHeartbeats 2000000 in
theorem spsk_any (i r : Int) (w : World) : Calls Try.prog 23 #[.int .i64 i, .int .i64 r] w fun e w' => e = .returned (sV (sK i r)) ∧ Only [] w w' := by
  go_enter Try.func23, Try.ntmps23
  go_wp2_with fail
  refine (plain6_any _).mono ?_
  rintro e w1 ⟨rfl, ho⟩
  obtain ⟨D, hD⟩ : ∃ D, D = w.heap.size := ⟨_, rfl⟩
  have O := hid (((Only.refl [] w).alloc _).trans ho)
  have A := hid (SAt.new w s0 28 |>.only ho (by simp))
  have F := hid (show ∀ o, w1.frozen? ⟨w.heap.size, o, none⟩ = false from fun o => (ho.frozen (p := ⟨w.heap.size, o, none⟩) (by simp) (by simp)).trans (by simp))
  have LD := hid (show D < w1.heap.size by have := ho.size; simp at this; omega)
  rw [← hD] at A F ⊢
  have HD := hid hD
  clear hD ho
  have G : ∀ (O : Obj) (o : Nat), (w1.alloc O).frozen? ⟨D, o, none⟩ = false := fun O o => (((Only.refl [] w1).alloc O).frozen (p := ⟨D, o, none⟩) LD.out (by simp)).trans (F.out o)
  have B : ∀ (O : Obj), SAt (w1.alloc O) D 0 s0 := fun O => A.out.only ((Only.refl [] w1).alloc O) (by simp)
  have b0 := fun O => (B O).c0
  have b1 := fun O => (B O).c1
  have b2 := fun O => (B O).c2
  have b3 := fun O => (B O).c3
  have b4 := fun O => (B O).c4
  have b5 := fun O => (B O).c5
  have b6 := fun O => (B O).c6
  have b7 := fun O => (B O).c7
  have b8 := fun O => (B O).c8
  simp only [s0, Nat.zero_add] at b0 b1 b2 b3 b4 b5 b6 b7 b8
  clear B
  go_wp2_with fail
  refine bodyPost_ret (v := sV (sK i r)) (by simp [results, Try.results23, go_sem, same_of, b0, b1, b2, b3, b4, b5, b6, b7, b8, plainS, sK]) rfl ⟨rfl, ?_⟩
  exact (O.out.alloc _) |>.setCell (.inr (by simp [HD.out])) _ |>.setCell (.inr (by simp [HD.out])) _ |>.setCell (.inr (by simp [HD.out])) _ |>.setCell (.inr (by simp [HD.out])) _ |>.setCell (.inr (by simp [HD.out])) _ |>.setCell (.inr (by simp [HD.out])) _ |>.setCell (.inr (by simp [HD.out])) _ |>.setCell (.inr (by simp [HD.out])) _ |>.setCell (.inr (by simp [HD.out])) _
set_option maxRecDepth 100000 in
set_option maxHeartbeats 2000000 in
theorem ppsk_any (i r : Int) (w : World) : Calls Try.prog 22 #[.int .i64 i, .int .i64 r] w fun e w' => e = .returned (pV (pK i r)) ∧ Only [] w w' := by
  go_enter Try.func22, Try.ntmps22
  go_wp2_with fail
  refine (plain7_any _).mono ?_
  rintro e w1 ⟨rfl, ho⟩
  obtain ⟨D, hD⟩ : ∃ D, D = w.heap.size := ⟨_, rfl⟩
  have O := hid (((Only.refl [] w).alloc _).trans ho)
  have A := hid (PAt.new w p0 30 |>.only ho (by simp))
  have F := hid (show ∀ o, w1.frozen? ⟨w.heap.size, o, none⟩ = false from fun o => (ho.frozen (p := ⟨w.heap.size, o, none⟩) (by simp) (by simp)).trans (by simp))
  have LD := hid (show D < w1.heap.size by have := ho.size; simp at this; omega)
  rw [← hD] at A F ⊢
  have HD := hid hD
  clear hD ho
  have G : ∀ (O : Obj) (o : Nat), (w1.alloc O).frozen? ⟨D, o, none⟩ = false := fun O o => (((Only.refl [] w1).alloc O).frozen (p := ⟨D, o, none⟩) LD.out (by simp)).trans (F.out o)
  have B : ∀ (O : Obj), PAt (w1.alloc O) D 0 p0 := fun O => A.out.only ((Only.refl [] w1).alloc O) (by simp)
  have b0 := fun O => (B O).c0
  have b1 := fun O => (B O).c1
  have b2 := fun O => (B O).c2
  have b3 := fun O => (B O).c3
  have b4 := fun O => (B O).c4
  have b5 := fun O => (B O).c5
  have b6 := fun O => (B O).c6
  have b7 := fun O => (B O).c7
  have b8 := fun O => (B O).c8
  have b9 := fun O => (B O).c9
  simp only [p0, Nat.zero_add] at b0 b1 b2 b3 b4 b5 b6 b7 b8 b9
  clear B
  go_wp2_with fail
  refine bodyPost_ret (v := pV (pK i r)) (by simp [results, Try.results22, go_sem, same_of, b0, b1, b2, b3, b4, b5, b6, b7, b8, b9, plainP, pK]) rfl ⟨rfl, ?_⟩
  exact (O.out.alloc _) |>.setCell (.inr (by simp [HD.out])) _ |>.setCell (.inr (by simp [HD.out])) _ |>.setCell (.inr (by simp [HD.out])) _ |>.setCell (.inr (by simp [HD.out])) _ |>.setCell (.inr (by simp [HD.out])) _ |>.setCell (.inr (by simp [HD.out])) _ |>.setCell (.inr (by simp [HD.out])) _ |>.setCell (.inr (by simp [HD.out])) _ |>.setCell (.inr (by simp [HD.out])) _ |>.setCell (.inr (by simp [HD.out])) _
theorem dec3 {p p' : PV} {s s' : SV} {e e' : Int} : decide ((p', s', e') = (p, s, e)) = (decide (p' = p) && decide (s' = s) && decide (e' = e)) := by
  rw [Bool.eq_iff_iff]; simp only [decide_eq_true_eq, Bool.and_eq_true, Prod.mk.injEq, and_assoc]
set_option maxRecDepth 100000 in
set_option maxHeartbeats 4000000 in
theorem has_any {w : World} {b : Nat} {L : List Nat} {f : Int → Option SV} {g : Int → Option PV} {n : Nat} (h : StL w b L f g n) (i : Int) (p : PV) (s : SV) (e0 : Int) {r : Bool} (hr : decide (getR f g i = (p, s, e0)) = r) :
    Calls Try.prog 24 #[.pointer (some ⟨b, 0, none⟩), .int .i64 i, pV p, sV s, .int .i64 e0] w fun e w' => e = .returned (.bool r) ∧ Only [] w w' := by
  have H := hid h
  clear h
  obtain ⟨q, hq⟩ : ∃ q, q = getR f g i := ⟨_, rfl⟩
  obtain ⟨p', s', e'⟩ := q
  rw [← hq, dec3] at hr
  have HQ := hid hq
  clear hq
  cases h1 : decide (p' = p) <;> cases h2 : decide (s' = s) <;> cases h3 : decide (e' = e0)
  all_goals
    rw [h1, h2, h3] at hr
    have E1 := fun w => eql_p p' p h1 w
    have E2 := fun w => eql_s s' s h2 w
    have hr' := hr
    simp only [Bool.and_true, Bool.and_false, Bool.and_self] at hr'
    subst hr'
    clear hr h1 h2
    have E3 : (e' == e0) = _ := h3
    go_enter Try.func24, Try.ntmps24
    go_upto_region 1 with (fail)
    generalize hw1 : (w.alloc _).alloc _ = w1
    have O1 := hid (show Only [] w w1 from hw1 ▸ ((Only.refl [] w).alloc _).alloc _)
    have PA := hid (show PAt w1 w.heap.size 0 p from hw1 ▸ ((PAt.new w p _).only ((Only.refl [] _).alloc _) (by simp)))
    have SA := hid (show SAt w1 (w.heap.size + 1) 0 s from hw1 ▸ (by have a := SAt.new (w.alloc (.cells #[.int .i64 p.id, .int .i64 p.sps, .bool p.cab, .int .i64 p.rf, .int .i64 p.r1, .int .i64 p.qp, .int .i64 p.qs, .int .i64 p.ch, .bool p.db, .bool p.nt] 30)) s 28; simpa using a))
    generalize w.heap.size = D at PA SA ⊢
    clear hw1
    go_wp2_with fail
    refine (get_any (H.out.only O1.out (by simp)) i HQ.out.symm).mono ?_
    rintro e w2 ⟨rfl, ho⟩
    have O2 := hid (O1.out.trans ho)
    have PB := fun o1 o2 => (PA.out.only ((ho.alloc o1).alloc o2) (by simp)).all
    have SB : ∀ o1 o2, SAt ((w2.alloc o1).alloc o2) (D + 1) 0 s := fun o1 o2 => SA.out.only ((ho.alloc o1).alloc o2) (by simp)
    have SB := fun o1 o2 => (SB o1 o2).all
    clear ho
    go_wp2_with fail
    go_ret
    exact ⟨rfl, (O2.out.alloc _).alloc _⟩
end Go.Proofs.Ytkcjehajmofhfaa

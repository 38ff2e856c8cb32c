/- PlaceGrid: the walk. -/
import Derived.Test.YtnpfjmblgjojcaaDoorPlH
import Derived.StillTailTactics
namespace Go.Proofs.YtnpfjmblgjojcaaDoor
open Go.RowKit Go.Maps
set_option linter.unusedVariables false

theorem rem_name {k d : Int} (hd : 0 < d) : ∃ r, 0 ≤ r ∧ r < d ∧ Hid ((k.tmod d + d).tmod d = r ∧ (k.tmod d + d) % d = r) := by
  have h1 := Int.lt_tmod_of_pos k hd
  have h2 : 0 ≤ k.tmod d + d := by omega
  exact ⟨_, Int.tmod_nonneg _ h2, Int.tmod_lt_of_pos _ hd, ⟨rfl, (Int.tmod_eq_emod_of_nonneg h2).symm⟩⟩

theorem only_grown {w wr w1 : World} {b : Nat} (o : Only [] w wr) (g : World.grownBy wr.drew w1 (some b)) (hb : w.heap.size ≤ b) : Only [] w w1 :=
  o.drew.trans2 (T := [b]) ⟨g.os, g.tape, g.output, g.size, fun k hk hs => g.block k hk (by simpa using hs)⟩ (by simpa using hb)

set_option maxRecDepth 100000 in
set_option maxHeartbeats 8000000 in
theorem pgrid_any (k n l : Int) (w : World) (hV : PlV w) (k0 : -9223372036854775808 ≤ k) (k1 : k ≤ 9223372036854775807) (n0 : -9223372036854775808 ≤ n) (n1 : n ≤ 9223372036854775807) (l0 : -9223372036854775808 ≤ l) (l1 : l ≤ 9223372036854775807) :
    Calls Tryd.prog 8 #[.int .i64 k, .int .i64 n, .int .i64 l] w fun e w' => e = .returned (.bool true) ∧ Only [] w w' := by
  have V := hid hV
  clear hV
  have AL := hid (fun w V => alive_any w V)
  obtain ⟨f, f0, f1, F⟩ := rem_name (k := k) (d := 1000) (by decide)
  obtain ⟨q, q0, q1, Q⟩ := rem_name (k := n) (d := 20) (by decide)
  obtain ⟨m, m0, m1, M⟩ := rem_name (k := l) (d := 300) (by decide)
  obtain ⟨v, hv⟩ : ∃ v, v = q + 1 := ⟨_, rfl⟩
  have v0 : 1 ≤ v := by omega
  have v1 : v ≤ 20 := by omega
  obtain rfl : q = v - 1 := by omega
  clear hv q0 q1
  have s1 := Int.lt_tmod_of_pos k (show (0 : Int) < 1000 by decide)
  have s2 := Int.tmod_lt_of_pos k (show (0 : Int) < 1000 by decide)
  have s3 := Int.lt_tmod_of_pos n (show (0 : Int) < 20 by decide)
  have s4 := Int.tmod_lt_of_pos n (show (0 : Int) < 20 by decide)
  have s5 := Int.lt_tmod_of_pos l (show (0 : Int) < 300 by decide)
  have s6 := Int.tmod_lt_of_pos l (show (0 : Int) < 300 by decide)
  obtain ⟨e1, e2⟩ := F.out
  obtain ⟨e3, e4⟩ := Q.out
  obtain ⟨e5, e6⟩ := M.out
  have hmm := @run_makeMap Tryd.prog
  go_enter Tryd.func8, Tryd.ntmps8
  go_wp2_with fail
  clear e1 e2 e3 e4 e5 e6 s1 s2 s3 s4 s5 s6 F Q M
  have G0 := hid (show (w.alloc (.map #[] 0)).ownsMap Tryd.prog 40 (plainElem Tryd.prog 3) w.heap.size 0 (gridD f v 0) from World.ownsMap_made _ _ _ _)
  have O0 := hid ((Only.refl [] w).alloc (.map #[] 0))
  obtain ⟨b, hb⟩ : ∃ b, b = w.heap.size := ⟨_, rfl⟩
  rw [← hb] at G0 ⊢
  have B := hid hb
  clear hb
  obtain ⟨mm, hm⟩ := Int.eq_ofNat_of_zero_le m0
  subst hm
  go_loopg [8] mm (fun g t wr => ∃ j : Nat, j + g = mm ∧ t = .int .i64 (f + j) ∧ wr.ownsMap Tryd.prog 40 (plainElem Tryd.prog 3) b j (gridD f v j) ∧ Only [] w wr)
  case atStart => exact ⟨0, by omega, by simp, G0.out, O0.out⟩
  case round =>
    obtain ⟨j, hj, rfl, hG, hO⟩ := hrel
    have G := hid hG
    have O := hid hO
    clear hG hO G0 O0
    obtain ⟨a, ha⟩ : ∃ a, a = f + (j : Int) := ⟨_, rfl⟩
    rw [← ha]
    by_cases hg : gk = 0
    · have hlt : ¬ a < f + (mm : Int) := by omega
      clear ha hj hg
      go_wp2_with fail
      refine (AL.out _ (V.out.only0 O.out)).mono ?_
      rintro e x2 ⟨rfl, hO⟩
      go_wp2_with fail
      go_ret
      exact ⟨rfl, O.out.trans hO⟩
    · have hlt : a < f + (mm : Int) := by omega
      obtain ⟨g, rfl⟩ : ∃ g, gk = g + 1 := ⟨gk - 1, by omega⟩
      have JG := hid (show j + 1 + g = mm by omega)
      have jb : j < 300 := by omega
      have J := hid jb
      have a0 : 0 ≤ a := by omega
      have a1 : a ≤ 1299 := by omega
      have C := col_wf f0 (by omega) v0 v1 (show j ≤ 300 by omega)
      rw [← ha] at C
      have A := hid ha
      clear ha hj hg jb
      have t1 := Int.tmod_eq_emod_of_nonneg (b := v) a0
      have t2 := Int.tdiv_eq_ediv_of_nonneg (b := v) a0
      obtain ⟨X, hX⟩ : ∃ X, a % v = X := ⟨_, rfl⟩
      obtain ⟨Y, hY⟩ : ∃ Y, a / v = Y := ⟨_, rfl⟩
      rw [hX] at C t1
      rw [hY] at C t2
      have GE := hid (show (gridD f v j).put (pairL X Y) (.lit (.int .i64 a)) = gridD f v (j + 1) by rw [← hX, ← hY, A.out]; rfl)
      obtain ⟨⟨⟨c0, c1⟩, c2, c3⟩, c4⟩ := C
      have C4 := hid c4
      clear c4
      have nz : ¬ v = 0 := by omega
      obtain ⟨w1, hrun, hG1, hg1⟩ := World.ownsMap.update (w := wr.drew) (show wr.drew.ownsMap Tryd.prog 40 (plainElem Tryd.prog 3) b j (gridD f v j) from G.out) key_keyed map_under (show j < maxLen by have := J.out; unfold maxLen; omega) (keyOf_pair (wfi (z := X) (by omega) (by omega)) (wfi (z := Y) (by omega) (by omega))) (plainElem_int int_under (wfi (z := a) (by omega) (by omega)))
      rw [GE.out] at hG1
      have G1 := hid hG1
      have O1 := hid (only_grown O.out hg1 (by rw [B.out]; exact Nat.le_refl _))
      clear hG1 hg1
      have vp : 0 < v := by omega
      have J1 := hid (show j + 1 ≤ 300 by have := J.out; omega)
      have M1 := hid (fun (h : 1 ≤ X) => (Int.ediv_emod_unique (a := a - 1) (r := X - 1) (q := Y) vp).2 ⟨by have := C4.out; omega, by omega, by omega⟩)
      have M2 := hid ((Int.ediv_emod_unique (a := a - v) (r := X) (q := Y - 1) vp).2 ⟨by have := C4.out; rw [Int.mul_sub, Int.mul_one]; omega, by omega, by omega⟩)
      have W1 := hid (wfi (show -9223372036854775808 ≤ X - 1 by omega) (by omega))
      have W2 := hid (wfi (show -9223372036854775808 ≤ Y - 1 by omega) (by omega))
      have WX := hid (wfi (show -9223372036854775808 ≤ X by omega) (by omega))
      have WY := hid (wfi (show -9223372036854775808 ≤ Y by omega) (by omega))
      have F1 := hid (show f ≤ 999 by omega)
      have fa : f ≤ a := by have := A.out; omega
      have p1 : IntKind.i64.wrap (X - 1) = X - 1 := IntWalk.i64_in _ (by omega)
      have p2 : IntKind.i64.wrap (Y - 1) = Y - 1 := IntWalk.i64_in _ (by omega)
      have N := hid (fun w => near11_any a f v w (by omega) (by omega) (by omega) (by omega) (by omega) (by omega))
      by_cases c2 : f ≤ a - v
      · have av0 : 0 ≤ a - v := by omega
        by_cases hx : X = 0
        · subst hx
          have hx1 : ¬ (1 : Int) ≤ 0 := by omega
          rw [show nearI a f v = (-1, a - v, 0) from by unfold nearI; rw [if_pos (by omega), if_neg (fun h => h.1 (hX)), if_pos c2]] at N
          have K1 : Hid (∀ w', World.ownsMap w' Tryd.prog 40 (plainElem Tryd.prog 3) b (j + 1) (gridD f v (j + 1)) → (Instr.lookup 39 (.map (some b)) (.agg #[.int .i64 (-1), .int .i64 (Y)]) true).run Tryd.prog w' = .ok (.tuple #[.int .i64 0, .bool false]) w') := fun w' h => look_no h f0 F1.out v0 v1 J1.out W1.out WY.out fun i hi ⟨h1, h2⟩ => by
            have h3 := Int.mul_ediv_add_emod (f + (i : Int)) v
            have h4 := Int.emod_nonneg (f + (i : Int)) nz
            have h5 := C4.out
            have h6 := A.out
            rw [h1, h2] at h3
            rw [h1] at h4
            omega
          have K2 : Hid (∀ w', World.ownsMap w' Tryd.prog 40 (plainElem Tryd.prog 3) b (j + 1) (gridD f v (j + 1)) → (Instr.lookup 39 (.map (some b)) (.agg #[.int .i64 0, .int .i64 (Y - 1)]) true).run Tryd.prog w' = .ok (.tuple #[.int .i64 (a - v), .bool true]) w') := fun w' h => look_yes (i := j - v.toNat) h f0 F1.out v0 v1 J1.out (by omega) (by have := A.out; omega) M2.out.2 M2.out.1
          go_wp2_with fail
          go_still_tail 9, (by kernel_rfl)
          go_wp2_with fail
          rw [hrun]
          clear hrun
          go_upon
          go_wp2_with fail
          refine (N.out _).mono ?_
          rintro e w2 ⟨rfl, hO⟩
          have O2 := hid (O1.out.trans hO)
          have G2 := hid (ownsMap_only G1.out hO)
          clear hO
          have L1 := fun n => K1.out (w2.drewN n) G2.out
          go_wp2_with fail
          go_quiet (fail)
          clear L1
          go_wp2_with fail
          have G3 := hid (show (w2.drewN nq).ownsMap Tryd.prog 40 (plainElem Tryd.prog 3) b (j + 1) (gridD f v (j + 1)) from G2.out)
          have O3 := hid (O2.out.drewN nq)
          clear G2 O2 K1
          generalize w2.drewN nq = w3 at G3 O3 ⊢
          have L2 := fun n => K2.out (w3.drewN n) G3.out
          go_quiet (fail)
          clear L2
          go_wp2_with fail
          go_roundg g
          case measure => omega
          case rel => exact ⟨j + 1, JG.out, congrArg (Value.int IntKind.i64) (by have h := A.out; omega), G3.out, O3.out.drewN nq⟩
        · have hx1 : 1 ≤ X := by omega
          have cl : f ≤ a - 1 := by omega
          have hXb : (X == 0) = false := by simpa using hx
          have hav : ¬ a - v < 0 := by omega
          have N2 := hid (fun w => near11_any (a - v) f v w (by omega) (by omega) (by omega) (by omega) (by omega) (by omega))
          have N3 := hid (fun w => near11_any (a - 1) f v w (by omega) (by omega) (by omega) (by omega) (by omega) (by omega))
          obtain ⟨r2, hr2⟩ : ∃ r, r = (if f ≤ a - v - v then a - v - v else -1) := ⟨_, rfl⟩
          obtain ⟨r3, hr3⟩ : ∃ r, r = (if (a - 1) % v ≠ 0 ∧ f ≤ a - 1 - 1 then a - 1 - 1 else -1) := ⟨_, rfl⟩
          by_cases c5 : f ≤ a - v - 1
          · have d0 : 0 ≤ a - v - 1 := by omega
            rw [show nearI a f v = (a - 1, a - v, 0) from by unfold nearI; rw [if_pos (by omega), if_pos ⟨by rw [hX]; exact hx, cl⟩, if_pos c2]] at N
            rw [show nearI (a - v) f v = (a - v - 1, r2, 0) from by unfold nearI; rw [if_pos (by omega), if_pos ⟨by rw [M2.out.2]; exact hx, c5⟩, ← hr2]] at N2
            rw [show nearI (a - 1) f v = (r3, a - v - 1, 0) from by unfold nearI; rw [if_pos (by omega), if_pos (show f ≤ a - 1 - v by omega), ← hr3, show a - 1 - v = a - v - 1 by omega]] at N3
            clear hr2 hr3
            have K1 : Hid (∀ w', World.ownsMap w' Tryd.prog 40 (plainElem Tryd.prog 3) b (j + 1) (gridD f v (j + 1)) → (Instr.lookup 39 (.map (some b)) (.agg #[.int .i64 (X - 1), .int .i64 (Y)]) true).run Tryd.prog w' = .ok (.tuple #[.int .i64 (a - 1), .bool true]) w') := fun w' h => look_yes (i := j - 1) h f0 F1.out v0 v1 J1.out (by omega) (by have := A.out; omega) (M1.out (by omega)).2 (M1.out (by omega)).1
            have K2 : Hid (∀ w', World.ownsMap w' Tryd.prog 40 (plainElem Tryd.prog 3) b (j + 1) (gridD f v (j + 1)) → (Instr.lookup 39 (.map (some b)) (.agg #[.int .i64 (X), .int .i64 (Y - 1)]) true).run Tryd.prog w' = .ok (.tuple #[.int .i64 (a - v), .bool true]) w') := fun w' h => look_yes (i := j - v.toNat) h f0 F1.out v0 v1 J1.out (by omega) (by have := A.out; omega) M2.out.2 M2.out.1
            go_wp2_with fail
            go_still_tail 9, (by kernel_rfl)
            go_wp2_with fail
            rw [hrun]
            clear hrun
            go_upon
            go_wp2_with fail
            refine (N.out _).mono ?_
            rintro e w2 ⟨rfl, hO⟩
            have O2 := hid (O1.out.trans hO)
            have G2 := hid (ownsMap_only G1.out hO)
            clear hO
            have L1 := fun n => K1.out (w2.drewN n) G2.out
            go_wp2_with fail
            go_quiet (fail)
            clear L1
            go_wp2_with fail
            have G3 := hid (show (w2.drewN nq).ownsMap Tryd.prog 40 (plainElem Tryd.prog 3) b (j + 1) (gridD f v (j + 1)) from G2.out)
            have O3 := hid (O2.out.drewN nq)
            clear G2 O2 K1
            generalize w2.drewN nq = w3 at G3 O3 ⊢
            have L2 := fun n => K2.out (w3.drewN n) G3.out
            go_quiet (fail)
            clear L2
            go_wp2_with fail
            have G4 := hid (show (w3.drewN nq).ownsMap Tryd.prog 40 (plainElem Tryd.prog 3) b (j + 1) (gridD f v (j + 1)) from G3.out)
            have O4 := hid (O3.out.drewN nq)
            clear G3 O3 K2
            generalize w3.drewN nq = w4 at G4 O4 ⊢
            refine (N2.out _).mono ?_
            rintro e w5 ⟨rfl, hO⟩
            have O5 := hid (O4.out.trans hO)
            have G5 := hid (ownsMap_only G4.out hO)
            clear hO
            go_wp2_with fail
            refine (N3.out _).mono ?_
            rintro e w6 ⟨rfl, hO⟩
            have O6 := hid (O5.out.trans hO)
            have G6 := hid (ownsMap_only G5.out hO)
            clear hO
            go_wp2_with fail
            go_roundg g
            case measure => omega
            case rel => exact ⟨j + 1, JG.out, congrArg (Value.int IntKind.i64) (by have h := A.out; omega), G6.out, O6.out⟩
          · have d0 : True := trivial
            rw [show nearI a f v = (a - 1, a - v, 0) from by unfold nearI; rw [if_pos (by omega), if_pos ⟨by rw [hX]; exact hx, cl⟩, if_pos c2]] at N
            rw [show nearI (a - v) f v = (-1, r2, 0) from by unfold nearI; rw [if_pos (by omega), if_neg (fun h => c5 h.2), ← hr2]] at N2
            rw [show nearI (a - 1) f v = (r3, -1, 0) from by unfold nearI; rw [if_pos (by omega), if_neg (show ¬ f ≤ a - 1 - v by omega), ← hr3]] at N3
            clear hr2 hr3
            have K1 : Hid (∀ w', World.ownsMap w' Tryd.prog 40 (plainElem Tryd.prog 3) b (j + 1) (gridD f v (j + 1)) → (Instr.lookup 39 (.map (some b)) (.agg #[.int .i64 (X - 1), .int .i64 (Y)]) true).run Tryd.prog w' = .ok (.tuple #[.int .i64 (a - 1), .bool true]) w') := fun w' h => look_yes (i := j - 1) h f0 F1.out v0 v1 J1.out (by omega) (by have := A.out; omega) (M1.out (by omega)).2 (M1.out (by omega)).1
            have K2 : Hid (∀ w', World.ownsMap w' Tryd.prog 40 (plainElem Tryd.prog 3) b (j + 1) (gridD f v (j + 1)) → (Instr.lookup 39 (.map (some b)) (.agg #[.int .i64 (X), .int .i64 (Y - 1)]) true).run Tryd.prog w' = .ok (.tuple #[.int .i64 (a - v), .bool true]) w') := fun w' h => look_yes (i := j - v.toNat) h f0 F1.out v0 v1 J1.out (by omega) (by have := A.out; omega) M2.out.2 M2.out.1
            go_wp2_with fail
            go_still_tail 9, (by kernel_rfl)
            go_wp2_with fail
            rw [hrun]
            clear hrun
            go_upon
            go_wp2_with fail
            refine (N.out _).mono ?_
            rintro e w2 ⟨rfl, hO⟩
            have O2 := hid (O1.out.trans hO)
            have G2 := hid (ownsMap_only G1.out hO)
            clear hO
            have L1 := fun n => K1.out (w2.drewN n) G2.out
            go_wp2_with fail
            go_quiet (fail)
            clear L1
            go_wp2_with fail
            have G3 := hid (show (w2.drewN nq).ownsMap Tryd.prog 40 (plainElem Tryd.prog 3) b (j + 1) (gridD f v (j + 1)) from G2.out)
            have O3 := hid (O2.out.drewN nq)
            clear G2 O2 K1
            generalize w2.drewN nq = w3 at G3 O3 ⊢
            have L2 := fun n => K2.out (w3.drewN n) G3.out
            go_quiet (fail)
            clear L2
            go_wp2_with fail
            have G4 := hid (show (w3.drewN nq).ownsMap Tryd.prog 40 (plainElem Tryd.prog 3) b (j + 1) (gridD f v (j + 1)) from G3.out)
            have O4 := hid (O3.out.drewN nq)
            clear G3 O3 K2
            generalize w3.drewN nq = w4 at G4 O4 ⊢
            refine (N2.out _).mono ?_
            rintro e w5 ⟨rfl, hO⟩
            have O5 := hid (O4.out.trans hO)
            have G5 := hid (ownsMap_only G4.out hO)
            clear hO
            go_wp2_with fail
            refine (N3.out _).mono ?_
            rintro e w6 ⟨rfl, hO⟩
            have O6 := hid (O5.out.trans hO)
            have G6 := hid (ownsMap_only G5.out hO)
            clear hO
            go_wp2_with fail
            go_roundg g
            case measure => omega
            case rel => exact ⟨j + 1, JG.out, congrArg (Value.int IntKind.i64) (by have h := A.out; omega), G6.out, O6.out⟩
      · by_cases cl : ¬ X = 0 ∧ f ≤ a - 1
        · obtain ⟨hx, cl⟩ := cl
          have hx1 : 1 ≤ X := by omega
          rw [show nearI a f v = (a - 1, -1, 0) from by unfold nearI; rw [if_pos (by omega), if_pos ⟨by rw [hX]; exact hx, cl⟩, if_neg c2]] at N
          have K1 : Hid (∀ w', World.ownsMap w' Tryd.prog 40 (plainElem Tryd.prog 3) b (j + 1) (gridD f v (j + 1)) → (Instr.lookup 39 (.map (some b)) (.agg #[.int .i64 (X - 1), .int .i64 (Y)]) true).run Tryd.prog w' = .ok (.tuple #[.int .i64 (a - 1), .bool true]) w') := fun w' h => look_yes (i := j - 1) h f0 F1.out v0 v1 J1.out (by omega) (by have := A.out; omega) (M1.out (by omega)).2 (M1.out (by omega)).1
          have K2 : Hid (∀ w', World.ownsMap w' Tryd.prog 40 (plainElem Tryd.prog 3) b (j + 1) (gridD f v (j + 1)) → (Instr.lookup 39 (.map (some b)) (.agg #[.int .i64 (X), .int .i64 (Y - 1)]) true).run Tryd.prog w' = .ok (.tuple #[.int .i64 0, .bool false]) w') := fun w' h => look_no h f0 F1.out v0 v1 J1.out WX.out W2.out fun i hi ⟨h1, h2⟩ => by
            have h3 := Int.mul_ediv_add_emod (f + (i : Int)) v
            have h5 := C4.out
            rw [h1, h2, Int.mul_sub, Int.mul_one] at h3
            omega
          go_wp2_with fail
          go_still_tail 9, (by kernel_rfl)
          go_wp2_with fail
          rw [hrun]
          clear hrun
          go_upon
          go_wp2_with fail
          refine (N.out _).mono ?_
          rintro e w2 ⟨rfl, hO⟩
          have O2 := hid (O1.out.trans hO)
          have G2 := hid (ownsMap_only G1.out hO)
          clear hO
          have L1 := fun n => K1.out (w2.drewN n) G2.out
          go_wp2_with fail
          go_quiet (fail)
          clear L1
          go_wp2_with fail
          have G3 := hid (show (w2.drewN nq).ownsMap Tryd.prog 40 (plainElem Tryd.prog 3) b (j + 1) (gridD f v (j + 1)) from G2.out)
          have O3 := hid (O2.out.drewN nq)
          clear G2 O2 K1
          generalize w2.drewN nq = w3 at G3 O3 ⊢
          have L2 := fun n => K2.out (w3.drewN n) G3.out
          go_quiet (fail)
          clear L2
          go_wp2_with fail
          go_roundg g
          case measure => omega
          case rel => exact ⟨j + 1, JG.out, congrArg (Value.int IntKind.i64) (by have h := A.out; omega), G3.out, O3.out.drewN nq⟩
        ·
          rw [show nearI a f v = (-1, -1, 0) from by unfold nearI; rw [if_pos (by omega), if_neg (fun h => cl ⟨fun e => h.1 (hX.trans e), h.2⟩), if_neg c2]] at N
          have K1 : Hid (∀ w', World.ownsMap w' Tryd.prog 40 (plainElem Tryd.prog 3) b (j + 1) (gridD f v (j + 1)) → (Instr.lookup 39 (.map (some b)) (.agg #[.int .i64 (X - 1), .int .i64 (Y)]) true).run Tryd.prog w' = .ok (.tuple #[.int .i64 0, .bool false]) w') := fun w' h => look_no h f0 F1.out v0 v1 J1.out W1.out WY.out fun i hi ⟨h1, h2⟩ => by
            have h3 := Int.mul_ediv_add_emod (f + (i : Int)) v
            have h4 := Int.emod_nonneg (f + (i : Int)) nz
            have h5 := C4.out
            have h6 := A.out
            rw [h1, h2] at h3
            rw [h1] at h4
            omega
          have K2 : Hid (∀ w', World.ownsMap w' Tryd.prog 40 (plainElem Tryd.prog 3) b (j + 1) (gridD f v (j + 1)) → (Instr.lookup 39 (.map (some b)) (.agg #[.int .i64 (X), .int .i64 (Y - 1)]) true).run Tryd.prog w' = .ok (.tuple #[.int .i64 0, .bool false]) w') := fun w' h => look_no h f0 F1.out v0 v1 J1.out WX.out W2.out fun i hi ⟨h1, h2⟩ => by
            have h3 := Int.mul_ediv_add_emod (f + (i : Int)) v
            have h5 := C4.out
            rw [h1, h2, Int.mul_sub, Int.mul_one] at h3
            omega
          go_wp2_with fail
          go_still_tail 9, (by kernel_rfl)
          go_wp2_with fail
          rw [hrun]
          clear hrun
          go_upon
          go_wp2_with fail
          refine (N.out _).mono ?_
          rintro e w2 ⟨rfl, hO⟩
          have O2 := hid (O1.out.trans hO)
          have G2 := hid (ownsMap_only G1.out hO)
          clear hO
          have L1 := fun n => K1.out (w2.drewN n) G2.out
          go_wp2_with fail
          go_quiet (fail)
          clear L1
          go_wp2_with fail
          have G3 := hid (show (w2.drewN nq).ownsMap Tryd.prog 40 (plainElem Tryd.prog 3) b (j + 1) (gridD f v (j + 1)) from G2.out)
          have O3 := hid (O2.out.drewN nq)
          clear G2 O2 K1
          generalize w2.drewN nq = w3 at G3 O3 ⊢
          have L2 := fun n => K2.out (w3.drewN n) G3.out
          go_quiet (fail)
          clear L2
          go_wp2_with fail
          go_roundg g
          case measure => omega
          case rel => exact ⟨j + 1, JG.out, congrArg (Value.int IntKind.i64) (by have h := A.out; omega), G3.out, O3.out.drewN nq⟩
end Go.Proofs.YtnpfjmblgjojcaaDoor

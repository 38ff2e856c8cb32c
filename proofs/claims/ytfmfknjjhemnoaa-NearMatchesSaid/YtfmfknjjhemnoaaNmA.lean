/- NearMatches, for whatever comes in. -/
import Derived.Test.YtfmfknjjhemnoaaNhC
namespace Go.Proofs.Ytfmfknjjhemnoaa
open Go.RowKit
set_option linter.unusedVariables false
set_option linter.unusedSimpArgs false

/-- Two objects, of the program and of the reference, apart from each other and new since w0. -/
structure Two (w0 w : World) (nb rb : Nat) (f wd : Int) (ms rs : List MV) (F G : Nat → Prop) : Prop where
  n : NAt 59 F w nb f wd ms
  r : NAt 61 G w rb f wd rs
  d : ∀ g, F g → ¬ G g
  nf : ∀ g, F g → w0.heap.size ≤ g
  ng : ∀ g, G g → w0.heap.size ≤ g
  o : Only [] w0 w
section
variable {w0 w w' : World} {nb rb : Nat} {f wd : Int} {ms rs ms' : List MV} {F G : Nat → Prop}
theorem Two.step (h : Two w0 w nb rb f wd ms rs F G) (k : Only [] w w') : Two w0 w' nb rb f wd ms rs F G := ⟨h.n.only0 k, h.r.only0 k, h.d, h.nf, h.ng, h.o.trans k⟩
theorem Two.addN (h : Two w0 w nb rb f wd ms rs F G) (g : Grown 59 F w w' nb f wd ms') : ∃ F', Two w0 w' nb rb f wd ms' rs F' G := by
  obtain ⟨S, F', h1, h2, h3, h4⟩ := g
  exact ⟨F', h3, h.r.only h1 (fun y hy => h.d y (h2 y hy)), fun y hy hG => (h4 y hy).elim (fun q => h.d y q hG) (fun q => by have := h.r.lt y hG; omega), fun y hy => (h4 y hy).elim (h.nf y) (fun q => Nat.le_trans h.o.size q), h.ng, h.o.trans2 h1 (fun y hy => .inr (h.nf y (h2 y hy)))⟩
theorem Two.addR (h : Two w0 w nb rb f wd ms rs F G) (g : Grown 61 G w w' rb f wd ms') : ∃ G', Two w0 w' nb rb f wd ms ms' F G' := by
  obtain ⟨S, G', h1, h2, h3, h4⟩ := g
  exact ⟨G', h.n.only h1 (fun y hy hF => h.d y hF (h2 y hy)), h3, fun y hF hy => (h4 y hy).elim (fun q => h.d y hF q) (fun q => by have := h.n.lt y hF; omega), h.nf, fun y hy => (h4 y hy).elim (h.ng y) (fun q => Nat.le_trans h.o.size q), h.o.trans2 h1 (fun y hy => .inr (h.ng y (h2 y hy)))⟩
end
theorem rnew_any (f wd : Int) (w : World) (h : okN f wd) : Calls Try.prog 11 #[.int .i64 f, .int .i64 wd] w fun e w' => e = .returned (.tuple #[.pointer (some ⟨w.heap.size, 0, none⟩), .int .i64 0]) ∧ NAt 61 (fun g => g = w.heap.size) w' w.heap.size f wd [] ∧ Only [] w w' :=
  (rnew_yes f wd w h).mono fun e w' ⟨he, hw⟩ => ⟨he, by rw [hw]; exact nat_new _ w f wd h.1 h.2.1 h.2.2.1 h.2.2.2, by rw [hw]; exact (Only.refl [] w).alloc _⟩
set_option maxRecDepth 1000000 in
set_option maxHeartbeats 4000000 in
theorem nmatches_any (f wd : Int) (b : Value) (us : List El) (w : World) (hb : LIn w b us) :
    Calls Try.prog 3 #[.int .i64 f, .int .i64 wd, b] w fun e w' => e = .returned (.bool true) ∧ Only [] w w' := by
  have FW := hid (few_any b us 40 w hb (by omega) (by omega))
  have HB := hid hb
  have AW := hid awake_any
  obtain ⟨ba, bc, rfl, _⟩ := id hb.h
  clear hb
  by_cases hk : okN f wd
  · have NY := hid (fun w' => new_any f wd w' hk)
    have RY := hid (fun w' => rnew_any f wd w' hk)
    clear hk
    go_enter Try.func3, Try.ntmps3
    go_wp2_with fail
    refine FW.out.mono ?_
    rintro e w1 ⟨rr, rfl, hr, o1⟩
    have HR := hid hr
    have O1 := hid o1
    clear hr o1
    cases rr with
    | false =>
      go_wp2_with fail
      go_ret
      exact ⟨rfl, O1.out⟩
    | true =>
      have SM := hid (HR.out rfl)
      clear HR
      obtain ⟨n, hn⟩ : ∃ n, n = us.length := ⟨_, rfl⟩
      have N0 := hid hn
      rw [← hn]
      have nb : (n : Int) ≤ 40 := by have := SM.out.1; omega
      clear hn
      go_wp2_with fail
      refine (NY.out w1).mono ?_
      rintro e w2 ⟨rfl, hN, o2⟩
      obtain ⟨p, hp⟩ : ∃ p, p = w1.heap.size := ⟨_, rfl⟩
      rw [← hp] at hN ⊢
      have N2 := hid hN
      have O2 := hid o2
      have HP := hid hp
      clear hN o2 hp
      go_wp2_with fail
      refine (RY.out w2).mono ?_
      rintro e w3 ⟨rfl, hR, o3⟩
      obtain ⟨q, hq⟩ : ∃ q, q = w2.heap.size := ⟨_, rfl⟩
      rw [← hq] at hR ⊢
      have TW := hid (show Two w w3 p q f wd [] [] (fun g => g = p) (fun g => g = q) from ⟨N2.out.only0 o3, hR, fun g hg hh => by have h1 := N2.out.lt p rfl; rw [hg] at hh; omega, fun g hg => by have h1 := O1.out.size; have h2 := HP.out; rw [hg, h2]; exact h1, fun g hg => by have h1 := O1.out.size; have h2 := O2.out.size; rw [hg, hq]; omega, (O1.out.trans O2.out).trans o3⟩)
      clear hR o3 hq N2 O2 HP
      go_wp2_with fail
      go_loopg [11] n (fun g t wr => ∃ i : Nat, i + g = n ∧ t = .int .i64 i ∧ ∃ cur F G, Two w wr p q f wd cur cur F G)
      case atStart => exact ⟨0, by omega, rfl, [], _, _, TW.out⟩
      case round =>
        obtain ⟨i, hi, rfl, cur, F, G, hT⟩ := hrel
        have TT := hid hT
        clear hT
        have i0 : (0 : Int) ≤ (i : Int) := by omega
        by_cases hg : gk = 0
        · have i1 : ¬ (i : Int) < (n : Int) := by omega
          have SA := hid (same_any wr TT.out.n TT.out.r)
          clear hi hg
          go_wp2_with fail
          refine SA.out.mono ?_
          rintro e w4 ⟨rfl, o4⟩
          have O4 := hid (TT.out.o.trans o4)
          clear o4
          go_wp2_with fail
          refine (AW.out w4).mono ?_
          rintro e w5 ⟨rfl, o5⟩
          have O5 := hid (O4.out.trans o5)
          clear o5
          go_wp2_with fail
          go_ret
          exact ⟨rfl, O5.out⟩
        · obtain ⟨gg, rfl⟩ : ∃ gg, gk = gg + 1 := ⟨gk - 1, by omega⟩
          have IN := hid (show i + 1 + gg = n by omega)
          have i1 : (i : Int) < (n : Int) := by omega
          have i2 : 0 ≤ (i : Int) ∧ (i : Int) < (n : Int) := ⟨i0, i1⟩
          obtain ⟨u, hu⟩ : ∃ u, us[i]? = some u := ⟨_, List.getElem?_eq_getElem (by have := N0.out; omega)⟩
          have A1 := hid (fun w' (o : Only [] w w') => (HB.out.only0 o).e u (List.mem_of_getElem? hu))
          have SX := SM.out.2 u (List.mem_of_getElem? hu)
          have X1 := HB.out.h
          obtain ⟨ga, oa, rfl, ca⟩ := X1.at hu
          obtain ⟨x, r1, r2, r3⟩ := u
          have SX : MSm x := SX
          have HX := hid SX
          have A2 := hid (fun w' (o : Only [] w w') => (show MAt w' x r1.sl r2.sl r3.sl from A1.out w' o))
          have LA := hid (fun w' (o : Only [] w w') => ho_mb (w := w') (k := ga) (off := oa + i * 29) (x := x) (rv := r1.sl) (vv := r2.sl) (bv := r3.sl) (fun j v hj => o.cell (ca j v hj) (by simp)))
          have CC := hid (fun w' (o : Only [] w w') => copymb_any x r1.sl r2.sl r3.sl w' (A2.out w' o) (by have := SX.r; omega) (by have := SX.v; omega) (by have := SX.b; omega) (fun l hl => by have := SX.i l hl; omega))
          clear hi hg hu X1 ca SX A1
          go_upto_region 12 with fail
          refine wp_region_heldH (fun w' => Only [] w w') 20 (by kernel_rfl) rfl TT.out.o.drew (fun hS => ?_)
          have dr : Only [] wr wr.drew := (Only.refl [] wr).drew
          generalize wr.drew = wx at *
          refine wpAnyH_read 0 (v := ?va1) rfl (by kernel_rfl) (by kernel_rfl) (by kernel_rfl) (fun _ _ _ h => h) hS (Or.inl ⟨by rfl, ?ya1⟩) ?ra1
          case ya1 =>
            intro w hSw

            go_simp
            (try with_reducible rfl)
          (try simp only [Act.put, List.setIfInBounds_toArray, List.set_cons_zero, List.set_cons_succ])
          refine wpAnyH_read 1 (v := ?va2) rfl (by kernel_rfl) (by kernel_rfl) (by kernel_rfl) (fun _ _ _ h => h) hS (Or.inl ⟨by rfl, ?ya2⟩) ?ra2
          case ya2 =>
            intro w hSw

            go_simp
            (try with_reducible rfl)
          (try simp only [Act.put, List.setIfInBounds_toArray, List.set_cons_zero, List.set_cons_succ])
          refine wpAnyH_call 2 rfl (by kernel_rfl) (fun J hJ => ?_)
          rw [if_pos (by rfl)]
          go_simp
          refine (same_any wx (TT.out.step dr).n (TT.out.step dr).r).mono ?_
          rintro e x1 ⟨rfl, p_⟩
          have s1 := hS.trans p_
          have t1 := hid (TT.out.step (dr.trans p_))
          clear p_
          refine hJ.out _ _ s1 ?_
          clear hJ J
          (try simp only [Act.put, List.setIfInBounds_toArray, List.set_cons_zero, List.set_cons_succ])
          refine wpAnyH_read 3 (v := ?va3) rfl (by kernel_rfl) (by kernel_rfl) (by kernel_rfl) (fun _ _ _ h => h) s1 (Or.inl ⟨by rfl, ?ya3⟩) ?ra3
          case ya3 =>
            intro w hSw

            go_simp
            (try with_reducible rfl)
          (try simp only [Act.put, List.setIfInBounds_toArray, List.set_cons_zero, List.set_cons_succ])
          refine wpAnyH_read 4 (v := ?va4) rfl (by kernel_rfl) (by kernel_rfl) (by kernel_rfl) (fun _ _ _ h => h) s1 (Or.inl ⟨by rfl, ?ya4⟩) ?ra4
          case ya4 =>
            intro w hSw

            go_simp
            (try with_reducible rfl)
          (try simp only [Act.put, List.setIfInBounds_toArray, List.set_cons_zero, List.set_cons_succ])
          refine wpAnyH_read 5 (v := ?va5) rfl (by kernel_rfl) (by kernel_rfl) (by kernel_rfl) (fun _ _ _ h => h) s1 (Or.inl ⟨by rfl, ?ya5⟩) ?ra5
          case ya5 =>
            intro w hSw

            go_simp
            (try with_reducible rfl)
          (try simp only [Act.put, List.setIfInBounds_toArray, List.set_cons_zero, List.set_cons_succ])
          refine wpAnyH_read 6 (v := ?va6) rfl (by kernel_rfl) (by kernel_rfl) (by kernel_rfl) (fun _ _ _ h => h) s1 (Or.inl ⟨by rfl, ?ya6⟩) ?ra6
          case ya6 =>
            intro w hSw

            go_simp
            (try with_reducible rfl)
          (try simp only [Act.put, List.setIfInBounds_toArray, List.set_cons_zero, List.set_cons_succ])
          refine wpAnyH_read 7 (v := ?va7) rfl (by kernel_rfl) (by kernel_rfl) (by kernel_rfl) (fun _ _ _ h => h) s1 (Or.inl ⟨by rfl, ?ya7⟩) ?ra7
          case ya7 =>
            intro w hSw

            go_simp
            (try with_reducible rfl)
          (try simp only [Act.put, List.setIfInBounds_toArray, List.set_cons_zero, List.set_cons_succ])
          refine wpAnyH_read 8 (v := ?va8) rfl (by kernel_rfl) (by kernel_rfl) (by kernel_rfl) (fun _ _ _ h => h) s1 (Or.inl ⟨by rfl, ?ya8⟩) ?ra8
          case ya8 =>
            intro w hSw

            go_simp
            (try with_reducible rfl)
          (try simp only [Act.put, List.setIfInBounds_toArray, List.set_cons_zero, List.set_cons_succ])
          refine wpAnyH_read 9 rfl (by kernel_rfl) (by kernel_rfl) (by kernel_rfl) (fun _ _ _ h => h) s1 (yields_load 40 _ (by rfl) rfl ⟨ga, oa + i * 29, none⟩ (mC x r1.sl r2.sl r3.sl) rfl (fun w h => LA.out w h)) ?_
          (try simp only [Act.put, List.setIfInBounds_toArray, List.set_cons_zero, List.set_cons_succ])
          refine wpAnyH_read 12 (v := ?va9) rfl (by kernel_rfl) (by kernel_rfl) (by kernel_rfl) (fun _ _ _ h => h) s1 (Or.inl ⟨by rfl, ?ya9⟩) ?ra9
          case ya9 =>
            intro w hSw

            go_simp
            (try with_reducible rfl)
          (try simp only [Act.put, List.setIfInBounds_toArray, List.set_cons_zero, List.set_cons_succ])
          refine wpAnyH_read 13 (v := ?va10) rfl (by kernel_rfl) (by kernel_rfl) (by kernel_rfl) (fun _ _ _ h => h) s1 (Or.inl ⟨by rfl, ?ya10⟩) ?ra10
          case ya10 =>
            intro w hSw

            go_simp
            (try with_reducible rfl)
          (try simp only [Act.put, List.setIfInBounds_toArray, List.set_cons_zero, List.set_cons_succ])
          refine wpAnyH_read 14 (v := ?va11) rfl (by kernel_rfl) (by kernel_rfl) (by kernel_rfl) (fun _ _ _ h => h) s1 (Or.inl ⟨by rfl, ?ya11⟩) ?ra11
          case ya11 =>
            intro w hSw

            go_simp
            (try with_reducible rfl)
          (try simp only [Act.put, List.setIfInBounds_toArray, List.set_cons_zero, List.set_cons_succ])
          refine wpAnyH_read 15 (v := ?va12) rfl (by kernel_rfl) (by kernel_rfl) (by kernel_rfl) (fun _ _ _ h => h) s1 (Or.inl ⟨by rfl, ?ya12⟩) ?ra12
          case ya12 =>
            intro w hSw

            go_simp
            (try with_reducible rfl)
          (try simp only [Act.put, List.setIfInBounds_toArray, List.set_cons_zero, List.set_cons_succ])
          refine wpAnyH_read 16 rfl (by kernel_rfl) (by kernel_rfl) (by kernel_rfl) (fun _ _ _ h => h) s1 (yields_load 40 _ (by rfl) rfl ⟨ga, oa + i * 29, none⟩ (mC x r1.sl r2.sl r3.sl) rfl (fun w h => LA.out w h)) ?_
          (try simp only [Act.put, List.setIfInBounds_toArray, List.set_cons_zero, List.set_cons_succ])
          refine wpAnyH_call 10 rfl (by kernel_rfl) (fun J hJ => ?_)
          rw [if_pos (by rfl)]
          go_simp
          refine (CC.out _ s1).mono ?_
          rintro e x2 ⟨rv, vv, bv, rfl, ow⟩
          have s2 := s1.trans ow.only
          have t2 := hid (t1.out.step ow.only)
          have MA := hid ow.at
          clear ow
          refine hJ.out _ _ s2 ?_
          clear hJ J
          (try simp only [Act.put, List.setIfInBounds_toArray, List.set_cons_zero, List.set_cons_succ])
          by_cases HF : f + cur.length < 8160
          · refine wpAnyH_call 11 rfl (by kernel_rfl) (fun J hJ => ?_)
            rw [if_pos (by rfl)]
            go_simp
            refine (add_yes x rv vv bv x2 t2.out.n HF MA.out HX.out).mono ?_
            rintro e x3 ⟨rfl, gr⟩
            obtain ⟨F', t3'⟩ := t2.out.addN gr
            have s3 := t3'.o
            have t3 := hid t3'
            clear gr t3'
            refine hJ.out _ _ s3 ?_
            clear hJ J
            (try simp only [Act.put, List.setIfInBounds_toArray, List.set_cons_zero, List.set_cons_succ])
            refine wpAnyH_call 17 rfl (by kernel_rfl) (fun J hJ => ?_)
            rw [if_pos (by rfl)]
            go_simp
            refine (radd_yes x r1.sl r2.sl r3.sl x3 t3.out.r HF (A2.out _ s3) HX.out).mono ?_
            rintro e x4 ⟨rfl, gr⟩
            obtain ⟨G', t4'⟩ := t3.out.addR gr
            have s4 := t4'.o
            have t4 := hid t4'
            clear gr t4'
            refine hJ.out _ _ s4 ?_
            clear hJ J
            (try simp only [Act.put, List.setIfInBounds_toArray, List.set_cons_zero, List.set_cons_succ])
            refine wpAnyH_read 18 (v := ?va51) rfl (by kernel_rfl) (by kernel_rfl) (by kernel_rfl) (fun _ _ _ h => h) s4 (Or.inl ⟨by rfl, ?ya51⟩) ?ra51
            case ya51 =>
              intro w hSw

              go_simp
              (try with_reducible rfl)
            (try simp only [Act.put, List.setIfInBounds_toArray, List.set_cons_zero, List.set_cons_succ])
            refine wpAnyH_read 19 (v := ?va52) rfl (by kernel_rfl) (by kernel_rfl) (by kernel_rfl) (fun _ _ _ h => h) s4 (Or.inl ⟨by rfl, ?ya52⟩) ?ra52
            case ya52 =>
              intro w hSw

              go_simp
              (try with_reducible rfl)
            (try simp only [Act.put, List.setIfInBounds_toArray, List.set_cons_zero, List.set_cons_succ])
            refine wpAnyH_done (by kernel_rfl) ?_ _
            go_wp2_with fail
            go_roundg gg
            case measure => omega
            case rel => exact ⟨i + 1, IN.out, by go_num, _, _, _, t4.out⟩
          · refine wpAnyH_call 11 rfl (by kernel_rfl) (fun J hJ => ?_)
            rw [if_pos (by rfl)]
            go_simp
            refine (add_long x rv vv bv x2 t2.out.n HF).mono ?_
            rintro e x3 ⟨rfl, p_⟩
            have s3 := s2.trans p_
            have t3 := hid (t2.out.step p_)
            clear p_
            refine hJ.out _ _ s3 ?_
            clear hJ J
            (try simp only [Act.put, List.setIfInBounds_toArray, List.set_cons_zero, List.set_cons_succ])
            refine wpAnyH_call 17 rfl (by kernel_rfl) (fun J hJ => ?_)
            rw [if_pos (by rfl)]
            go_simp
            refine (radd_long x r1.sl r2.sl r3.sl x3 t3.out.r HF).mono ?_
            rintro e x4 ⟨rfl, p_⟩
            have s4 := s3.trans p_
            have t4 := hid (t3.out.step p_)
            clear p_
            refine hJ.out _ _ s4 ?_
            clear hJ J
            (try simp only [Act.put, List.setIfInBounds_toArray, List.set_cons_zero, List.set_cons_succ])
            refine wpAnyH_read 18 (v := ?va81) rfl (by kernel_rfl) (by kernel_rfl) (by kernel_rfl) (fun _ _ _ h => h) s4 (Or.inl ⟨by rfl, ?ya81⟩) ?ra81
            case ya81 =>
              intro w hSw

              go_simp
              (try with_reducible rfl)
            (try simp only [Act.put, List.setIfInBounds_toArray, List.set_cons_zero, List.set_cons_succ])
            refine wpAnyH_read 19 (v := ?va82) rfl (by kernel_rfl) (by kernel_rfl) (by kernel_rfl) (fun _ _ _ h => h) s4 (Or.inl ⟨by rfl, ?ya82⟩) ?ra82
            case ya82 =>
              intro w hSw

              go_simp
              (try with_reducible rfl)
            (try simp only [Act.put, List.setIfInBounds_toArray, List.set_cons_zero, List.set_cons_succ])
            refine wpAnyH_done (by kernel_rfl) ?_ _
            go_wp2_with fail
            go_roundg gg
            case measure => omega
            case rel => exact ⟨i + 1, IN.out, by go_num, _, _, _, t4.out⟩
  · have NN := hid (fun w' => new_no f wd w' hk)
    have RN := hid (fun w' => rnew_no f wd w' hk)
    clear hk
    go_enter Try.func3, Try.ntmps3
    go_wp2_with fail
    refine FW.out.mono ?_
    rintro e w1 ⟨rr, rfl, hr, o1⟩
    have O1 := hid o1
    clear hr o1
    cases rr with
    | false =>
      go_wp2_with fail
      go_ret
      exact ⟨rfl, O1.out⟩
    | true =>
      go_wp2_with fail
      refine (NN.out w1).mono ?_
      rintro e w2 ⟨rfl, rfl⟩
      go_wp2_with fail
      refine (RN.out w2).mono ?_
      rintro e w3 ⟨rfl, rfl⟩
      go_wp2_with fail
      refine (AW.out w3).mono ?_
      rintro e w4 ⟨rfl, o4⟩
      have O4 := hid (O1.out.trans o4)
      clear o4
      go_wp2_with fail
      go_ret
      exact ⟨rfl, O4.out⟩
end Go.Proofs.Ytfmfknjjhemnoaa

/- The kit's EqualMbs of equal ones, CopyMbs. -/
import Derived.Test.YtfmfknjjhemnoaaNrN
import Derived.Test.YtfmfknjjhemnoaaNpD
namespace Go.Proofs.Ytfmfknjjhemnoaa
open Go.RowKit
set_option linter.unusedVariables false
set_option linter.unusedSimpArgs false

set_option maxRecDepth 1000000 in
set_option maxHeartbeats 4000000 in
theorem eqmbs_same (a b : Value) (us vs : List El) (w : World) (ha : HoldsG elC 29 w a us) (hb : HoldsG elC 29 w b vs) (eu : ∀ e, e ∈ us → EAt w e ∧ MSm e.1) (ev : ∀ e, e ∈ vs → EAt w e) (he : us.map (·.1) = vs.map (·.1)) (hl : us.length ≤ 100000) :
    Calls Try.prog 27 #[a, b] w fun e w' => e = .returned (.bool true) ∧ Only [] w w' := by
  have HA := hid ha
  have HB := hid hb
  have EU := hid eu
  have EV := hid ev
  have HE := hid he
  obtain ⟨a, c, rfl, _⟩ := ha
  obtain ⟨b, d, rfl, _⟩ := hb
  have ll : us.length = vs.length := by
    have := congrArg List.length he
    rwa [List.length_map, List.length_map] at this
  obtain ⟨n, hn⟩ : ∃ n, n = us.length := ⟨_, rfl⟩
  have N1 := hid hn
  have N2 := hid (hn.trans ll)
  rw [← ll, ← hn]
  rw [← hn] at hl
  have nb : (n : Int) ≤ 100000 := by omega
  clear ll hn hl eu ev he
  go_enter Try.func27, Try.ntmps27
  go_wp2_with fail
  go_loopg [5] n (fun g t wr => ∃ j : Nat, j + g = n ∧ t = .int .i64 j ∧ Only [] w wr)
  case atStart => exact ⟨0, by omega, rfl, Only.refl _ _⟩
  case round =>
    obtain ⟨j, hj, rfl, hO⟩ := hrel
    have J := hid hj
    have O := hid hO
    clear hO
    have jb : (j : Int) ≤ 100000 := by omega
    have j0 : (0 : Int) ≤ (j : Int) := by omega
    by_cases hg : gk = 0
    · obtain rfl : j = n := by omega
      have i1 : ¬ (j : Int) < (j : Int) := by omega
      clear hj hg
      go_wp2_with fail
      go_ret
      exact ⟨rfl, O.out⟩
    · have i1 : (j : Int) < (n : Int) := by omega
      obtain ⟨g, rfl⟩ : ∃ g, gk = g + 1 := ⟨gk - 1, by omega⟩
      have i2 : 0 ≤ (j : Int) ∧ (j : Int) < (n : Int) := ⟨j0, i1⟩
      obtain ⟨u, hu⟩ : ∃ u, us[j]? = some u := ⟨_, List.getElem?_eq_getElem (by have := N1.out; omega)⟩
      obtain ⟨v, hv⟩ : ∃ v, vs[j]? = some v := ⟨_, List.getElem?_eq_getElem (by have := N2.out; omega)⟩
      have huv : u.1 = v.1 := by
        have h := congrArg (fun l => l[j]?) HE.out
        simp only [List.getElem?_map, hu, hv, Option.map_some, Option.some.injEq] at h
        exact h
      have A1 := EU.out u (List.mem_of_getElem? hu)
      have A2 := EV.out v (List.mem_of_getElem? hv)
      have X1 := HA.out
      have X2 := HB.out
      obtain ⟨ga, oa, rfl, ca⟩ := X1.at hu
      obtain ⟨gb, ob, rfl, cb⟩ := X2.at hv
      obtain ⟨x, r1, r2, r3⟩ := u
      obtain ⟨y, s1, s2, s3⟩ := v
      obtain rfl : x = y := huv
      have LA := hid (fun w' (o : Only [] wr w') => ho_mb (w := w') (k := ga) (off := oa + j * 29) (x := x) (rv := r1.sl) (vv := r2.sl) (bv := r3.sl) (fun k v hk => (O.out.trans o).cell (ca k v hk) (by simp)))
      have LB := hid (fun w' (o : Only [] wr w') => ho_mb (w := w') (k := gb) (off := ob + j * 29) (x := x) (rv := s1.sl) (vv := s2.sl) (bv := s3.sl) (fun k v hk => (O.out.trans o).cell (cb k v hk) (by simp)))
      have SX : MSm x := A1.2
      have EQ := hid (fun w' (o : Only [] wr w') => eqmb_same x r1.sl r2.sl r3.sl s1.sl s2.sl s3.sl w' (A1.1.only0 (O.out.trans o)) (A2.only0 (O.out.trans o)) SX.len)
      clear hj hg hu hv A1 A2 X1 X2 ca cb SX
      go_upto_region 6 with fail
      refine wp_region_heldH (fun w' => Only [] wr w') 10 (by kernel_rfl) rfl (Only.refl [] wr).drew (fun hS => ?_)
      generalize wr.drew = wd at *
      refine wpAnyH_read 0 (v := ?va1) rfl (by kernel_rfl) (by kernel_rfl) (by kernel_rfl) (fun _ _ _ h => h) hS (Or.inl ⟨by rfl, ?ya1⟩) ?ra1
      case ya1 =>
        intro w hSw

        go_simp
        (try with_reducible rfl)
      (try simp only [Act.put, List.setIfInBounds_toArray, List.set_cons_zero, List.set_cons_succ])
      refine wpAnyH_read 1 (v := ?va2) rfl (by kernel_rfl) (by kernel_rfl) (by kernel_rfl) (fun _ _ _ h => h) hS (Or.inl ⟨by rfl, ?ya2⟩) ?ra2
      case ya2 =>
        intro w hSw

        go_simp
        (try with_reducible rfl)
      (try simp only [Act.put, List.setIfInBounds_toArray, List.set_cons_zero, List.set_cons_succ])
      refine wpAnyH_read 2 (v := ?va3) rfl (by kernel_rfl) (by kernel_rfl) (by kernel_rfl) (fun _ _ _ h => h) hS (Or.inl ⟨by rfl, ?ya3⟩) ?ra3
      case ya3 =>
        intro w hSw

        go_simp
        (try with_reducible rfl)
      (try simp only [Act.put, List.setIfInBounds_toArray, List.set_cons_zero, List.set_cons_succ])
      refine wpAnyH_read 3 rfl (by kernel_rfl) (by kernel_rfl) (by kernel_rfl) (fun _ _ _ h => h) hS (yields_load 40 _ (by rfl) rfl ⟨ga, oa + j * 29, none⟩ (mC x r1.sl r2.sl r3.sl) rfl (fun w h => LA.out w h)) ?_
      (try simp only [Act.put, List.setIfInBounds_toArray, List.set_cons_zero, List.set_cons_succ])
      refine wpAnyH_read 4 (v := ?va4) rfl (by kernel_rfl) (by kernel_rfl) (by kernel_rfl) (fun _ _ _ h => h) hS (Or.inl ⟨by rfl, ?ya4⟩) ?ra4
      case ya4 =>
        intro w hSw

        go_simp
        (try with_reducible rfl)
      (try simp only [Act.put, List.setIfInBounds_toArray, List.set_cons_zero, List.set_cons_succ])
      refine wpAnyH_read 5 (v := ?va5) rfl (by kernel_rfl) (by kernel_rfl) (by kernel_rfl) (fun _ _ _ h => h) hS (Or.inl ⟨by rfl, ?ya5⟩) ?ra5
      case ya5 =>
        intro w hSw

        go_simp
        (try with_reducible rfl)
      (try simp only [Act.put, List.setIfInBounds_toArray, List.set_cons_zero, List.set_cons_succ])
      refine wpAnyH_read 6 (v := ?va6) rfl (by kernel_rfl) (by kernel_rfl) (by kernel_rfl) (fun _ _ _ h => h) hS (Or.inl ⟨by rfl, ?ya6⟩) ?ra6
      case ya6 =>
        intro w hSw

        go_simp
        (try with_reducible rfl)
      (try simp only [Act.put, List.setIfInBounds_toArray, List.set_cons_zero, List.set_cons_succ])
      refine wpAnyH_read 7 rfl (by kernel_rfl) (by kernel_rfl) (by kernel_rfl) (fun _ _ _ h => h) hS (yields_load 40 _ (by rfl) rfl ⟨gb, ob + j * 29, none⟩ (mC x s1.sl s2.sl s3.sl) rfl (fun w h => LB.out w h)) ?_
      (try simp only [Act.put, List.setIfInBounds_toArray, List.set_cons_zero, List.set_cons_succ])
      refine wpAnyH_call 8 rfl (by kernel_rfl) (fun J hJ => ?_)
      rw [if_pos (by rfl)]
      go_simp
      refine (EQ.out _ hS).mono ?_
      rintro e u1 ⟨rfl, p_⟩
      have s1' := hS.trans p_
      clear p_
      refine hJ.out _ _ s1' ?_
      clear hJ J
      (try simp only [Act.put, List.setIfInBounds_toArray, List.set_cons_zero, List.set_cons_succ])
      refine wpAnyH_read 9 (v := ?va7) rfl (by kernel_rfl) (by kernel_rfl) (by kernel_rfl) (fun _ _ _ h => h) s1' (Or.inl ⟨by rfl, ?ya7⟩) ?ra7
      case ya7 =>
        intro w hSw

        go_simp
        (try with_reducible rfl)
      (try simp only [Act.put, List.setIfInBounds_toArray, List.set_cons_zero, List.set_cons_succ])
      refine wpAnyH_done (by kernel_rfl) ?_ _
      go_wp2_with fail
      go_roundg g
      case measure => omega
      case rel => exact ⟨j + 1, by have := J.out; omega, by go_num, O.out.trans s1'⟩
/-- A slice of copies of its own; their lists are new, too. -/
def Cpk (w0 w : World) (sv : Value) (ms : List MV) : Prop := ∃ L : List El, ColG elC 29 40 w0 w sv L ∧ L.map (·.1) = ms ∧ ∀ e, e ∈ L → Own (fun b => w0.heap.size ≤ b ∧ b ∉ ownG sv) w e
set_option maxRecDepth 1000000 in
set_option maxHeartbeats 4000000 in
theorem copymbs_any (b : Value) (us : List El) (w : World) (hb : HoldsG elC 29 w b us) (eu : ∀ e, e ∈ us → EAt w e ∧ MSm e.1) (hl : us.length ≤ 100000) :
    Calls Try.prog 28 #[b] w fun e w' => ∃ sv, e = .returned sv ∧ Cpk w w' sv (us.map (·.1)) := by
  have HB := hid hb
  have EU := hid eu
  obtain ⟨a, c, rfl, _⟩ := hb
  obtain ⟨n, hn⟩ : ∃ n, n = us.length := ⟨_, rfl⟩
  have N1 := hid hn
  rw [← hn]
  rw [← hn] at hl
  have nb : (n : Int) ≤ 100000 := by omega
  have HL := hid hl
  obtain ⟨ms, hms⟩ : ∃ ms, ms = us.map (·.1) := ⟨_, rfl⟩
  have MS := hid hms
  rw [← hms]
  clear hn hl eu hms
  go_enter Try.func28, Try.ntmps28
  go_wp2_with fail
  go_loopg [3, 4] n (fun g s t wr => ∃ i : Nat, i + g = n ∧ t = .int .i64 i ∧ Cpk w wr s (ms.take i))
  case atStart => exact ⟨0, by omega, rfl, [], ColG.nil w, rfl, by simp⟩
  case round =>
    obtain ⟨i, hi, rfl, hX⟩ := hrel
    have X := hid hX
    clear hX
    obtain ⟨s, hs⟩ : ∃ s, s = u3 := ⟨_, rfl⟩
    rw [← hs] at X ⊢
    clear hs
    have i0 : (0 : Int) ≤ (i : Int) := by omega
    by_cases hg : gk = 0
    · have i1 : ¬ (i : Int) < (n : Int) := by omega
      have XF := hid (show Cpk w wr s ms from by have := X.out; rw [List.take_of_length_le (by rw [MS.out, List.length_map]; have := N1.out; omega)] at this; exact this)
      clear hi hg
      go_wp2_with fail
      go_ret
      exact ⟨_, rfl, XF.out⟩
    · obtain ⟨gg, rfl⟩ : ∃ gg, gk = gg + 1 := ⟨gk - 1, by omega⟩
      have IN := hid (show i + 1 + gg = n by omega)
      have i1 : (i : Int) < (n : Int) := by omega
      have i2 : 0 ≤ (i : Int) ∧ (i : Int) < (n : Int) := ⟨i0, i1⟩
      obtain ⟨u, hu⟩ : ∃ u, us[i]? = some u := ⟨_, List.getElem?_eq_getElem (by have := N1.out; omega)⟩
      have A1 := EU.out u (List.mem_of_getElem? hu)
      have X1 := HB.out
      obtain ⟨ga, oa, rfl, ca⟩ := X1.at hu
      obtain ⟨x, r1, r2, r3⟩ := u
      obtain ⟨L, q1, q2, q3⟩ := X.out
      have SX : MSm x := A1.2
      have LA := hid (ho_mb (w := wr) (k := ga) (off := oa + i * 29) (x := x) (rv := r1.sl) (vv := r2.sl) (bv := r3.sl) (fun k v hk => q1.only.cell (ca k v hk) (by simp)))
      have CC := hid (copymb_any x r1.sl r2.sl r3.sl wr (A1.1.only0 q1.only) (by have := SX.r; omega) (by have := SX.v; omega) (by have := SX.b; omega) (fun l hl => by have := SX.i l hl; omega))
      have Q1 := hid q1
      have Q2 := hid q2
      have Q3 := hid q3
      have MX := hid (show ms[i]? = some x by rw [MS.out, List.getElem?_map, hu]; rfl)
      have LL := hid (show L.length + 1 ≤ 1000000 by
        have e := congrArg List.length q2
        rw [List.length_map, List.length_take] at e
        have := HL.out
        omega)
      clear hi hg hu A1 X1 ca SX q1 q2 q3
      go_wp2_with (refine load_atA rfl 40 (.tmp 14) rfl ⟨ga, oa + i * 29, none⟩ (mC x r1.sl r2.sl r3.sl) rfl LA.out ?_; simp only [Act.put, List.setIfInBounds_toArray, List.set_cons_zero, List.set_cons_succ])
      refine CC.out.mono ?_
      rintro e w3 ⟨rv, vv, bv, rfl, ow⟩
      obtain ⟨t1, t2, t3, rfl, rfl, rfl⟩ := ow.at.sl
      obtain ⟨sv2, w2, hrun, hcol⟩ := (ColS.start (Q1.out.step ow.only)).app1 elC_ok el_row (x, t1, t2, t3) LL.out
      have RUN := hid hrun
      have NX := hid (show Cpk w w2 sv2 (ms.take (i + 1)) from by
        obtain ⟨hbl, hbx⟩ := List.getElem?_eq_some_iff.1 MX.out
        have far : ∀ g, g ∈ ownG sv2 → g ∈ ownG s ∨ w3.heap.size ≤ g := hcol.new
        have ws := Q1.out.only.size
        have w3s := ow.only.size
        refine ⟨L ++ [(x, t1, t2, t3)], ColS.back (Q1.out.step ow.only) hcol, ?_, fun e he => ?_⟩
        · rw [List.take_succ_eq_append_getElem hbl, hbx, List.map_append, Q2.out]
          rfl
        · rcases List.mem_append.1 he with h | h
          · have h3 := ((Q3.out e h).step ow.only (by simp)).mono (G := fun b => w.heap.size ≤ b ∧ b < w3.heap.size ∧ b ∉ ownG s) (fun b hb hF => ⟨hF.1, hb, hF.2⟩)
            exact (h3.step hcol.only (fun g hg hF => hF.2.2 hg)).mono (fun b _ hF => ⟨hF.1, fun hs => (far b hs).elim hF.2.2 (fun z => by omega)⟩)
          · simp at h
            subst h
            have h3 := ow.own.mono (G := fun b => wr.heap.size ≤ b ∧ b < w3.heap.size) (fun b hb hF => ⟨hF, hb⟩)
            have lo : ∀ g, g ∈ ownG s → g < wr.heap.size := Q1.out.row.lt
            exact (h3.step hcol.only (fun g hg hF => by have := lo g hg; omega)).mono (fun b _ hF => ⟨by omega, fun hs => (far b hs).elim (fun z => by have := lo b z; omega) (fun z => by omega)⟩))
      clear hrun hcol ow X CC
      unfold mV
      go_wp2_with (first
        | (refine wp_buildSlice rfl 22 1 _ rfl #[(0, .agg (elC (x, t1, t2, t3)).toArray)] (by kernel_rfl) _ (run_mbs1 (x, t1, t2, t3) w3) ?_; simp only [Act.put, List.setIfInBounds_toArray, List.set_cons_zero, List.set_cons_succ])
        | (refine wp_append_eq (by kernel_rfl) (.tmp 11) (.tmp 17) _ _ rfl _ _ sv2 w2 rfl rfl RUN.out ?_; simp only [Act.put, List.setIfInBounds_toArray, List.set_cons_zero, List.set_cons_succ]))
      go_roundg gg
      case measure => omega
      case rel => exact ⟨i + 1, IN.out, by go_num, NX.out⟩
end Go.Proofs.Ytfmfknjjhemnoaa

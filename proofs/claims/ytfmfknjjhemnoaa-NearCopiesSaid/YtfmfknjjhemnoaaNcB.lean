/- NearCopies, where there is no object. -/
import Derived.Test.YtfmfknjjhemnoaaNcA
namespace Go.Proofs.Ytfmfknjjhemnoaa
open Go.RowKit
set_option linter.unusedVariables false
set_option linter.unusedSimpArgs false

set_option maxRecDepth 1000000 in
set_option maxHeartbeats 4000000 in
theorem ncopies_no (f wd : Int) (b : Value) (us : List El) (x : MV) (s1 s2 s3 : SlV) (w : World) (hb : LIn w b us) (hm : MAt w x s1.sl s2.sl s3.sl) (h : ¬ okN f wd ∨ ¬ f + us.length ≤ 8160) :
    Calls Try.prog 7 #[.int .i64 f, .int .i64 wd, b, mV x s1.sl s2.sl s3.sl] w fun e w' => e = .returned (.bool true) ∧ Only [] w w' := by
  obtain ⟨W, hW⟩ : ∃ W, W = w.alloc (.cells (mC x s1.sl s2.sl s3.sl).toArray 40) := ⟨_, rfl⟩
  have oW := hid (show Only [] w W from hW ▸ ((Only.refl [] w).alloc _))
  have BX := hid (show Blk W w.heap.size 40 (mC x s1.sl s2.sl s3.sl).toArray from hW ▸ Blk.new w _ _)
  obtain ⟨p, hp⟩ : ∃ p, p = w.heap.size := ⟨_, rfl⟩
  rw [← hp] at BX
  have HW := hid hW
  have HP := hid hp
  have FW := hid (few_any b us 30 W (hb.only0 oW.out) (by omega) (by omega))
  have FM := hid (fun w' (o : Only [] w w') => few_any _ [(x, s1, s2, s3)] 1 _ (lin_one (show EAt w' (x, s1, s2, s3) from hm.only0 o)) (by omega) (by omega))
  have AW := hid awake_any
  have HB := hid hb
  have HM := hid hm
  have LDX := hid (fun w' (o : Only [] W w') => (BX.out.only o (by simp)).mb)
  have MA := hid (fun w' (o : Only [] w w') (hs : ∀ e, e ∈ us → MSm e.1) (hl2 : us.length ≤ 100) => (show Calls Try.prog 25 #[.int .i64 f, .int .i64 wd, b] w' fun e w'' => e = .returned (.pointer none) ∧ Only [] w' w'' from by
    rcases made_any f wd b us w' (hb.only0 o) hs hl2 with ⟨h1, h2, _⟩ | ⟨_, h3⟩
    · exact absurd h2 (h.elim (fun q => absurd h1 q) id)
    · exact h3))
  obtain ⟨ba, bc, rfl, _⟩ := id hb.h
  obtain ⟨n, hn'⟩ : ∃ n, n = us.length := ⟨_, rfl⟩
  have N0 := hid hn'
  rw [← hn'] at FW MA ⊢
  clear hb hm h hn' hW hp
  unfold mV
  go_enter Try.func7, Try.ntmps7
  go_wp2_with (refine wp_box rfl 40 (.tmp 3) rfl (mC x s1.sl s2.sl s3.sl).toArray rfl HW.out HP.out ?_; simp only [Act.put, List.setIfInBounds_toArray, List.set_cons_zero, List.set_cons_succ])
  refine FW.out.mono ?_
  rintro e w1 ⟨rr, rfl, hr, o1⟩
  have HR := hid hr
  have O1 := hid (oW.out.trans o1)
  have L1 := hid (LDX.out _ o1)
  have R1 := hid (show Only [] W w1 from o1)
  clear hr o1
  cases rr with
  | false =>
    go_wp2_with fail
    go_ret
    exact ⟨rfl, O1.out⟩
  | true =>
    have SM := hid (HR.out rfl)
    have n40 : (n : Int) ≤ 30 := by have := SM.out.1; have := N0.out; omega
    clear HR
    go_wp2_with (first
      | (refine load_atG (by kernel_rfl) 40 (.tmp 7) rfl ⟨p, 0, none⟩ (mC x s1.sl s2.sl s3.sl) rfl L1.out ?_; simp only [Act.put, List.setIfInBounds_toArray, List.set_cons_zero, List.set_cons_succ])
      | (refine wp_buildSliceG (by kernel_rfl) 22 1 _ rfl #[(0, .agg (elC (x, s1, s2, s3)).toArray)] (by kernel_rfl) _ (run_mbs1 (x, s1, s2, s3) w1) ?_; simp only [Act.put, List.setIfInBounds_toArray, List.set_cons_zero, List.set_cons_succ]))
    refine (FM.out w1 O1.out).mono ?_
    rintro e w2 ⟨rm, rfl, hr, o2⟩
    have HR := hid hr
    have R2 := hid ((R1.out.alloc _).trans o2)
    have O2 := hid (oW.out.trans R2.out)
    clear hr o2
    cases rm with
    | false =>
      go_wp2_with fail
      go_ret
      exact ⟨rfl, O2.out⟩
    | true =>
      have SX := hid (show MSm x from (HR.out rfl).2 _ (List.mem_singleton.2 rfl))
      clear HR
      have M1 := hid (MA.out w2 O2.out SM.out.2 (by omega))
      go_wp2_with fail
      refine M1.out.mono ?_
      rintro e w3 ⟨rfl, o3⟩
      have O3 := hid (O2.out.trans o3)
      clear o3
      go_wp2_with fail
      refine (AW.out w3).mono ?_
      rintro e w4 ⟨rfl, o4⟩
      have O4 := hid (O3.out.trans o4)
      clear o4
      go_wp2_with fail
      go_ret
      exact ⟨rfl, O4.out⟩
end Go.Proofs.Ytfmfknjjhemnoaa

/- The program's Add. -/
import Derived.Test.YtfmfknjjhemnoaaNpC
namespace Go.Proofs.Ytfmfknjjhemnoaa
open Go.RowKit
set_option linter.unusedVariables false
set_option linter.unusedSimpArgs false

/-- The object holds the macroblocks ms now; what it is made of is what it was made of, or new. -/
def Grown (T : TypeId) (F : Nat → Prop) (w w' : World) (nb : Nat) (f wd : Int) (ms : List MV) : Prop := ∃ (S : List Nat) (F' : Nat → Prop), Only S w w' ∧ (∀ g, g ∈ S → F g) ∧ NAt T F' w' nb f wd ms ∧ ∀ g, F' g → F g ∨ w.heap.size ≤ g
theorem OwnM.base {u w0 w : World} {x : MV} {rv vv bv : Value} (h : OwnM w0 w x rv vv bv) (o : Only [] u w0) : OwnM u w x rv vv bv :=
  ⟨h.r, fun g hg => Nat.le_trans o.size (h.rn g hg), h.v, fun g hg => Nat.le_trans o.size (h.vn g hg), h.b.base o⟩
theorem step_buildSliceM {P : Program} {ops : Array Oper} {o : Oper} {a : Act} {w : World} {K : Act → World → Prop} {Q : Exit → Act → World → Prop} {E : Prop}
    (hg : o.guard = none) (t : TypeId) (n : Nat) (parts : Array (Nat × Operand)) (ho : o.op = .buildSlice t n parts) (vs : Array (Nat × Value)) (hx : parts.map (fun (i, x) => (i, a.eval x)) = vs) (v : Value) (w' : World) (hr : (Instr.buildSlice t n vs).run P w = .ok v w')
    (hK : K (a.put o.dst v) w') : if Region.wanted o (yielded ops a.tmps) = true then Oper.wp P o a w K Q else E := by
  have hw : Region.wanted o (yielded ops a.tmps) = true := by simp [Region.wanted, hg]
  rw [if_pos hw]
  unfold Oper.wp execOp
  simp only [ho]
  simp [hx, hr, Result.andThen]
  exact hK
theorem run_mbs1 (e : El) (w : World) : (Instr.buildSlice 22 1 #[(0, .agg (elC e).toArray)]).run Try.prog w = .ok (.slice (some ⟨w.heap.size, 0, none⟩) 1 1) (w.alloc (.cells (elC e).toArray 40)) := by kernel_rfl
set_option maxRecDepth 1000000 in
set_option maxHeartbeats 4000000 in
theorem add_yes {F : Nat → Prop} {nb : Nat} {f wd : Int} {ms : List MV} (x : MV) (rv vv bv : Value) (w : World) (h : NAt 59 F w nb f wd ms) (hf : f + ms.length < 8160) (hm : MAt w x rv vv bv) (hx : MSm x) :
    Calls Try.prog 14 #[.pointer (some ⟨nb, 0, none⟩), mV x rv vv bv] w fun e w' => e = .returned (.int .i64 0) ∧ Grown 59 F w w' nb f wd (ms ++ [x]) := by
  obtain ⟨s1, s2, s3, rfl, rfl, rfl⟩ := hm.sl
  obtain ⟨sv, els, h1, h2, rfl, h4, h5⟩ := h.own
  obtain ⟨a, c, hsv, _⟩ := h2.holds elC_ok
  have ADD := hid (fun w1 w2 sv2 e => NAt.add (w1 := w1) (w2 := w2) (sv2 := sv2) (e := e) h h1 h4 h5 (by simpa using hf))
  have NX := hid (fun w' (o : Only [] w w') => next_any w' (h.only0 o))
  have R2 := hid h2
  have B1 := hid h1
  have f0 := h.f0
  have hn := h.n
  rw [List.length_map] at hf hn NX
  obtain ⟨N, hN⟩ : ∃ N : Int, N = f + els.length := ⟨_, rfl⟩
  rw [← hN] at NX
  have e0 : (els.length : Int) ≤ 8160 := by omega
  have NO := hid (show nb ∉ ownG sv.sl ∧ ∀ g, g ∈ ownG sv.sl → g < w.heap.size from ⟨fun q => (h4 nb q).2 rfl, h2.lt⟩)
  have E0 := hid (show els.length + 1 ≤ 1000000 by omega)
  have N0 : ¬ N ≥ 8160 := by omega
  have N1 : 0 ≤ N := by omega
  have M := hid hm
  have HX := hid hx
  have CP := hid (fun w' (o : Only [] w w') => copy13_any x s1.sl s2.sl s3.sl w' (hm.only0 o) (by have := hx.r; omega) (by have := hx.v; omega) (by have := hx.b; omega) (fun l hl => by have := hx.i l hl; omega))
  obtain ⟨W, hW⟩ : ∃ W, W = w.alloc (.cells (mC x s1.sl s2.sl s3.sl).toArray 40) := ⟨_, rfl⟩
  have oW := hid (show Only [] w W from hW ▸ ((Only.refl [] w).alloc _))
  have BX := hid (show Blk W w.heap.size 40 (mC x s1.sl s2.sl s3.sl).toArray from hW ▸ Blk.new w _ _)
  obtain ⟨p, hp⟩ : ∃ p, p = w.heap.size := ⟨_, rfl⟩
  rw [← hp] at BX
  have HW := hid hW
  have HP := hid hp
  clear h h1 h2 h4 h5 hf hm hx hW hp hN hn
  unfold mV
  go_enter Try.func14, Try.ntmps14
  go_wp2_with (refine wp_box rfl 40 (.tmp 1) rfl (mC x s1.sl s2.sl s3.sl).toArray rfl HW.out HP.out ?_; simp only [Act.put, List.setIfInBounds_toArray, List.set_cons_zero, List.set_cons_succ])
  refine (NX.out W oW.out).mono ?_
  rintro e w0 ⟨rfl, o0⟩
  have O0 := hid (oW.out.trans o0)
  have BX0 := hid (BX.out.only o0 (by simp))
  have B10 := hid ((B1.out.only O0.out (by simp)))
  have C2 := hid (fun w' (o : Only (ownG sv.sl) w0 w') => (B10.out.only o NO.out.1).cell (i := 2) (v := sv.sl) rfl)
  have PO := hid (show p ∉ ownG sv.sl ∧ w.heap.size ≤ p from ⟨fun q => by have := NO.out.2 p q; have := HP.out; omega, by have := HP.out; omega⟩)
  clear o0
  go_upto_region 5 with (fail)
  refine wp_region_tail (fun w' => Only (ownG sv.sl) w0 w') 9 12 (by kernel_rfl) rfl (Only.refl _ w0).drew (fun hT => ?_)
  have hS : Only [] w0 w0.drew := (Only.refl [] w0).drew
  generalize w0.drew = wx at *
  refine wpAnyT_take 0 (v := ?va0) rfl (by kernel_rfl) (fun _ _ _ h => h) (Or.inl ⟨by rfl, ?ya0⟩) hT ?ra0
  case ya0 =>
    intro w hSw
    have hc := C2.out w hSw
    go_simp
    (try with_reducible rfl)
  (try simp only [Act.put, List.setIfInBounds_toArray, List.set_cons_zero, List.set_cons_succ])
  refine wpAnyT_take 1 (v := ?va1) rfl (by kernel_rfl) (fun _ _ _ h => h) (Or.inl ⟨by rfl, ?ya1⟩) hT ?ra1
  case ya1 =>
    intro w hSw
    have hc := C2.out w hSw
    go_simp
    (try with_reducible rfl)
  (try simp only [Act.put, List.setIfInBounds_toArray, List.set_cons_zero, List.set_cons_succ])
  refine wpAnyT_take 2 (v := ?va2) rfl (by kernel_rfl) (fun _ _ _ h => h) (Or.inl ⟨by rfl, ?ya2⟩) hT ?ra2
  case ya2 =>
    intro w hSw
    have hc := C2.out w hSw
    go_simp
    (try with_reducible rfl)
  (try simp only [Act.put, List.setIfInBounds_toArray, List.set_cons_zero, List.set_cons_succ])
  refine wpAnyT_take 3 (v := ?va3) rfl (by kernel_rfl) (fun _ _ _ h => h) (Or.inl ⟨by rfl, ?ya3⟩) hT ?ra3
  case ya3 =>
    intro w hSw
    have hc := C2.out w hSw
    go_simp
    (try with_reducible rfl)
  (try simp only [Act.put, List.setIfInBounds_toArray, List.set_cons_zero, List.set_cons_succ])
  refine wpAnyT_take 4 (v := ?va4) rfl (by kernel_rfl) (fun _ _ _ h => h) (Or.inl ⟨by rfl, ?ya4⟩) hT ?ra4
  case ya4 =>
    intro w hSw
    have hc := C2.out w hSw
    go_simp
    (try with_reducible rfl)
  (try simp only [Act.put, List.setIfInBounds_toArray, List.set_cons_zero, List.set_cons_succ])
  refine wpAnyT_take 5 rfl (by kernel_rfl) (fun _ _ _ h => h) (yields_load 40 _ (by rfl) rfl ⟨p, 0, none⟩ (mC x s1.sl s2.sl s3.sl) rfl (fun w h => (BX0.out.only h PO.out.1).mb)) hT ?_
  (try simp only [Act.put, List.setIfInBounds_toArray, List.set_cons_zero, List.set_cons_succ])
  refine wpAnyT_call 6 rfl (by kernel_rfl) (fun K hK => ?_)
  go_simp
  refine (CP.out _ (O0.out.trans hS)).mono ?_
  rintro e w1 ⟨r1, r2, r3, rfl, ow⟩
  have hS1 : Only [] w0 w1 := hS.trans ow.only
  have oc := ow.base (O0.out.trans hS)
  obtain ⟨t1, t2, t3, rfl, rfl, rfl⟩ := ow.at.sl
  have OC := hid oc
  have R1 := R2.out.only (O0.out.trans hS1) (by simp)
  obtain ⟨vv2, w2, hrun, hrow, hon, hnw⟩ := append_oneG elC_ok el_row sv.sl els (x, t1, t2, t3) R1 E0.out
  rw [hsv] at hrun
  have RUN := hid hrun
  have ROW := hid hrow
  have ON := hid hon
  have NW := hid hnw
  obtain ⟨a2, c2, e2, _⟩ := hrow.holds elC_ok
  obtain ⟨sv2, hs2⟩ : ∃ s : SlV, s.sl = vv2 := ⟨(a2, (els ++ [(x, t1, t2, t3)]).length, c2), e2.symm⟩
  refine hK.out _ _ (hS1.mono (fun _ _ h => by cases h)) ?_
  clear hK K ow hrun hrow hon hnw R1
  (try simp only [Act.put, List.setIfInBounds_toArray, List.set_cons_zero, List.set_cons_succ])
  refine wpAnyT_call 7 rfl (by kernel_rfl) (fun K hK => ?_)
  refine step_buildSliceM rfl 22 1 _ rfl #[(0, .agg (elC (x, t1, t2, t3)).toArray)] (by kernel_rfl) _ _ (run_mbs1 (x, t1, t2, t3) w1) ?_
  refine hK.out _ _ ((hS1.mono (fun _ _ h => by cases h)).alloc _) ?_
  clear hK K
  (try simp only [Act.put, List.setIfInBounds_toArray, List.set_cons_zero, List.set_cons_succ])
  refine wpAnyT_call 8 rfl (by kernel_rfl) (fun K hK => ?_)
  refine step_append_eqM rfl (.tmp 14) (.tmp 17) _ _ rfl (.slice a els.length c) _ rfl rfl vv2 w2 RUN.out ?_
  have o02 : Only (ownG sv.sl) w0 w2 := (hS1.mono (fun _ _ h => by cases h)).trans ON.out
  refine hK.out _ _ o02 ?_
  clear hK K
  (try simp only [Act.put, List.setIfInBounds_toArray, List.set_cons_zero, List.set_cons_succ])
  refine wpAnyT_tail _ rfl (by kernel_rfl) ?_
  simp only [List.drop_succ_cons, List.drop_zero]
  have b2 := B10.out.only o02 NO.out.1
  have c2' := b2.cell (i := 2) (v := sv.sl) rfl
  have y2 := b2.frozen 2
  have A := hid (ADD.out w1 w2 sv2 (x, t1, t2, t3) HX.out OC.out (hs2 ▸ ROW.out) ON.out (hs2 ▸ NW.out))
  clear b2 o02 hS hS1 hT oc
  rw [← hs2, show sv2.sl = .slice sv2.1 sv2.2.1 sv2.2.2 from rfl]
  rw [show sv2.sl = .slice sv2.1 sv2.2.1 sv2.2.2 from rfl] at A
  rw [hsv] at c2'
  clear hs2 e2
  go_wp2_with fail
  go_ret
  obtain ⟨S, F', q1, q2, q3, q4⟩ := A.out
  exact ⟨rfl, S, F', q1, q2, q3, q4⟩
set_option maxRecDepth 100000 in
theorem add_long {F : Nat → Prop} {nb : Nat} {f wd : Int} {ms : List MV} (x : MV) (rv vv bv : Value) (w : World) (h : NAt 59 F w nb f wd ms) (hf : ¬ f + ms.length < 8160) :
    Calls Try.prog 14 #[.pointer (some ⟨nb, 0, none⟩), mV x rv vv bv] w fun e w' => e = .returned (.int .i64 6) ∧ Only [] w w' := by
  have NX := hid (fun w' (o : Only [] w w') => next_any w' (h.only0 o))
  have n2 := h.n
  obtain ⟨N, hN⟩ : ∃ N : Int, N = f + ms.length := ⟨_, rfl⟩
  rw [← hN] at NX
  have N0 : N ≥ 8160 := by omega
  have N1 : N ≤ 8160 := by omega
  obtain ⟨W, hW⟩ : ∃ W, W = w.alloc (.cells (mC x rv vv bv).toArray 40) := ⟨_, rfl⟩
  have oW := hid (show Only [] w W from hW ▸ ((Only.refl [] w).alloc _))
  have HW := hid hW
  clear h hf hN n2 hW
  unfold mV
  go_enter Try.func14, Try.ntmps14
  go_wp2_with (refine wp_box rfl 40 (.tmp 1) rfl (mC x rv vv bv).toArray rfl HW.out rfl ?_; simp only [Act.put, List.setIfInBounds_toArray, List.set_cons_zero, List.set_cons_succ])
  refine (NX.out W oW.out).mono ?_
  rintro e w0 ⟨rfl, o0⟩
  have O0 := hid (oW.out.trans o0)
  clear o0
  go_wp2_with fail
  go_ret
  exact ⟨rfl, O0.out⟩
theorem add_nil (x : MV) (rv vv bv : Value) (w : World) :
    Calls Try.prog 14 #[.pointer none, mV x rv vv bv] w fun e w' => e = .returned (.int .i64 1) ∧ Only [] w w' := by
  obtain ⟨W, hW⟩ : ∃ W, W = w.alloc (.cells (mC x rv vv bv).toArray 40) := ⟨_, rfl⟩
  have oW := hid (show Only [] w W from hW ▸ ((Only.refl [] w).alloc _))
  have HW := hid hW
  clear hW
  unfold mV
  go_enter Try.func14, Try.ntmps14
  go_wp2_with (refine wp_box rfl 40 (.tmp 1) rfl (mC x rv vv bv).toArray rfl HW.out rfl ?_; simp only [Act.put, List.setIfInBounds_toArray, List.set_cons_zero, List.set_cons_succ])
  go_ret
  exact ⟨rfl, oW.out⟩
end Go.Proofs.Ytfmfknjjhemnoaa

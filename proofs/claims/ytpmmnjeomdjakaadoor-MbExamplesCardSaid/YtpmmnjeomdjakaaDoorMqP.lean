/- cmp.Or, the program's Check. -/
import Derived.Test.YtpmmnjeomdjakaaDoorMmb16
namespace Go.Proofs.YtpmmnjeomdjakaaDoor
open Go.RowKit
set_option linter.unusedVariables false
set_option linter.unusedSimpArgs false

set_option maxRecDepth 1000000 in
set_option maxHeartbeats 8000000 in
theorem pcheck_yes (x : MV) (rv vv bv : Value) (i : Bool) (refs : Int) (w : World) (hV : MbV w) (hx : MIn x) (hm : MAt w x rv vv bv) (hf : MFew x) (r0 : 0 ≤ refs) (r1 : refs ≤ 32) (hr : refsOk i refs = true) (hk : kindOk x.kind i = true) :
    Calls Tryd.prog 11 #[mV x rv vv bv, .bool i, .int .i64 refs] w fun e w' => e = .returned (.int .i64 (firstE (errsP x refs))) ∧ Only [] w w' := by
  obtain ⟨W1, hW⟩ : ∃ W, W = w.alloc (.cells (mC x rv vv bv).toArray 28) := ⟨_, rfl⟩
  have BX := hid (show Blk W1 w.heap.size 28 (mC x rv vv bv).toArray from hW ▸ Blk.new w _ _)
  have oW := hid (show Only [] w W1 from hW ▸ ((Only.refl [] w).alloc _))
  obtain ⟨Z, hZ⟩ : ∃ Z, Z = w.heap.size := ⟨_, rfl⟩
  rw [← hZ] at BX
  have HW := hid hW
  have HZ := hid hZ
  have V := hid (hV.only0 oW.out)
  have XI := hid hx
  have HM := hid (hm.only0 oW.out)
  have LF := hid hf
  have KB := hid (show 0 ≤ x.kind ∧ x.kind ≤ 255 from ⟨hx.k0, hx.k1⟩)
  have c0 := BX.out.cell (i := 0) (v := .int .u8 x.kind) rfl
  have INT := hid (fun w => pintra_any x.kind w)
  unfold kindOk at hk
  have k7 : decide (7 < x.kind) = false := by
    rw [Bool.and_eq_true] at hk
    exact decide_eq_false (by have := of_decide_eq_true hk.1; omega)
  have ki : (!i || intraI x.kind) = true := by rw [Bool.and_eq_true] at hk; exact hk.2
  obtain ⟨res, hres⟩ : ∃ r, r = firstE (errsP x refs) := ⟨_, rfl⟩
  rw [← hres]
  unfold errsP at hres
  obtain ⟨b0, hb0⟩ : ∃ b, b = (x.kind == 0) := ⟨_, rfl⟩
  obtain ⟨b1, hb1⟩ : ∃ b, b = (x.kind == 1) := ⟨_, rfl⟩
  obtain ⟨b6, hb6⟩ : ∃ b, b = (x.kind == 6) := ⟨_, rfl⟩
  rw [← hb0, ← hb1, ← hb6] at hres
  have Q0 := hid hb0.symm
  have Q1 := hid hb1.symm
  have Q6 := hid hb6.symm
  obtain ⟨e1, he1⟩ : ∃ e, e = fixE b1 [x.mode] 0 3 := ⟨_, rfl⟩
  obtain ⟨e2, he2⟩ : ∃ e, e = fixE (b0 || b1) [x.chroma] 0 3 := ⟨_, rfl⟩
  obtain ⟨e3, he3⟩ : ∃ e, e = fixE b0 x.pr.l 0 8 := ⟨_, rfl⟩
  obtain ⟨e4, he4⟩ : ∃ e, e = fixE b6 x.sb.l 0 3 := ⟨_, rfl⟩
  obtain ⟨e5, he5⟩ : ∃ e, e = listE x.refs (partsI x.kind) 0 (refs - 1) := ⟨_, rfl⟩
  obtain ⟨e6, he6⟩ : ∃ e, e = mvdsP x := ⟨_, rfl⟩
  obtain ⟨e7, he7⟩ : ∃ e, e = cbpW x := ⟨_, rfl⟩
  obtain ⟨e8, he8⟩ : ∃ e, e = fixE (hasQ x) [x.qp] (-26) 25 := ⟨_, rfl⟩
  obtain ⟨e9, he9⟩ : ∃ e, e = blksP x := ⟨_, rfl⟩
  obtain ⟨e10, he10⟩ : ∃ e, e = pcmW x := ⟨_, rfl⟩
  rw [← he1, ← he2, ← he3, ← he4, ← he5, ← he6, ← he7, ← he8, ← he9, ← he10] at hres
  have EQ1 := hid he1.symm
  have EQ2 := hid he2.symm
  have EQ3 := hid he3.symm
  have EQ4 := hid he4.symm
  have EQ5 := hid he5.symm
  have EQ6 := hid he6.symm
  have EQ7 := hid he7.symm
  have EQ8 := hid he8.symm
  have EQ9 := hid he9.symm
  have EQ10 := hid he10.symm
  have RS := hid hres.symm
  clear hW hZ hV hx hm hf hk hres hb0 hb1 hb6 he1 he2 he3 he4 he5 he6 he7 he8 he9 he10
  unfold mV
  cases i
  · simp only [refsOk, inI, Bool.false_eq_true, if_false, Bool.and_eq_true, decide_eq_true_eq] at hr
    have d1 : decide (refs < 1) = false := decide_eq_false (by omega)
    have d2 : decide (32 < refs) = false := decide_eq_false (by omega)
    clear hr ki INT
    go_enter Tryd.func11, Tryd.ntmps11
    go_wp2_with (refine wp_box rfl 28 (.tmp 0) rfl (mC x rv vv bv).toArray rfl HW.out HZ.out ?_; simp only [Act.put, List.setIfInBounds_toArray, List.set_cons_zero, List.set_cons_succ])
    clear c0 k7 d1 d2
    refine wp_region_rgT (m := 56) [.val (.pointer (some ⟨Z, 0, none⟩)), .val (.int .u8 x.kind), .val (.bool b1), .val (.pointer (some ⟨Z, 1, none⟩)), .val (.int .u8 x.mode), .row 5 1 (#[.int .u8 x.mode]), .val (.int .i64 e1), .val (.pointer (some ⟨Z, 0, none⟩)), .val (.int .u8 x.kind), .val (.bool b0), .val (.bool b0), .val (bif b0 then undef else .pointer (some ⟨Z, 0, none⟩)), .val (bif b0 then undef else .int .u8 x.kind), .val (bif b0 then undef else .bool b1), .val (.bool (b0 || b1)), .val (.pointer (some ⟨Z, 2, none⟩)), .val (.int .u8 x.chroma), .row 5 1 (#[.int .u8 x.chroma]), .val (.int .i64 e2), .val (.pointer (some ⟨Z, 0, none⟩)), .val (.int .u8 x.kind), .val (.bool b0), .val (.pointer (some ⟨Z, 3, none⟩)), .val (.slice (some ⟨Z, 3, none⟩) 16 16), .val (.int .i64 e3), .val (.pointer (some ⟨Z, 0, none⟩)), .val (.int .u8 x.kind), .val (.bool b6), .val (.pointer (some ⟨Z, 19, none⟩)), .val (.slice (some ⟨Z, 19, none⟩) 4 4), .val (.int .i64 e4), .val (.pointer (some ⟨Z, 23, none⟩)), .val (rv), .val (.pointer (some ⟨Z, 0, none⟩)), .val (.int .u8 x.kind), .val (.int .i64 (partsI x.kind)), .val (.int .i64 refs), .val (.int .i64 (refs - 1)), .val (.int .i64 e5), .val (mV x rv vv bv), .val (.int .i64 e6), .val (mV x rv vv bv), .val (.int .i64 e7), .val (mV x rv vv bv), .val (.bool (hasQ x)), .val (.pointer (some ⟨Z, 26, none⟩)), .val (.int .i64 x.qp), .row 3 1 (#[.int .i64 x.qp]), .val (.int .i64 e8), .val (mV x rv vv bv), .val (.int .i64 e9), .val (mV x rv vv bv), .val (.int .i64 e10), .row 30 10 (#[.int .i64 e1, .int .i64 e2, .int .i64 e3, .int .i64 e4, .int .i64 e5, .int .i64 e6, .int .i64 e7, .int .i64 e8, .int .i64 e9, .int .i64 e10]), .val (.int .i64 res), .val (.int .i64 res)] (by kernel_rfl) rfl (by kernel_rfl) ?_ ?_
    · refine RgSteps.cons (fun a w hS hsz hout hd K hK => ?_) ?_
      · rw [if_pos (by rfl)]
        have e3 : a.eval (.tmp 3) = .pointer (some ⟨Z, 0, none⟩) := hout 3 (by kernel_rfl)
        refine rg_value (v := .pointer (some ⟨Z, 0, none⟩)) ?_ (hK.out _ _ rfl (Only.refl _ _))
        clear hd hout hK hsz
        have ec : ∀ v, a.eval (.const v) = v := fun _ => rfl
        generalize a.eval = ev at *
        go_simp
        (try first | with_reducible rfl | go_num | decide)
      refine RgSteps.cons (fun a w hS hsz hout hd K hK => ?_) ?_
      · rw [if_pos (by rfl)]
        have e34 : a.eval (.tmp 34) = .pointer (some ⟨Z, 0, none⟩) := hd 0 (by kernel_rfl)
        exact rg_load 5 (.tmp 34) rfl ⟨Z, 0, none⟩ (.int .u8 x.kind) e34 (lc_u8 ((BX.out.only hS (by simp)).cell (i := 0) rfl)) (hK.out _ _ rfl (Only.refl _ _))
      refine RgSteps.cons (fun a w hS hsz hout hd K hK => ?_) ?_
      · rw [if_pos (by rfl)]
        have e35 : a.eval (.tmp 35) = .int .u8 x.kind := hd 1 (by kernel_rfl)
        have q : (x.kind == 1) = b1 := Q1.out
        refine rg_value (v := .bool b1) ?_ (hK.out _ _ rfl (Only.refl _ _))
        clear hd hout hK hsz
        have ec : ∀ v, a.eval (.const v) = v := fun _ => rfl
        generalize a.eval = ev at *
        go_simp
        (try first | with_reducible rfl | go_num | decide)
      refine RgSteps.cons (fun a w hS hsz hout hd K hK => ?_) ?_
      · rw [if_pos (by rfl)]
        have e3 : a.eval (.tmp 3) = .pointer (some ⟨Z, 0, none⟩) := hout 3 (by kernel_rfl)
        refine rg_value (v := .pointer (some ⟨Z, 1, none⟩)) ?_ (hK.out _ _ rfl (Only.refl _ _))
        clear hd hout hK hsz
        have ec : ∀ v, a.eval (.const v) = v := fun _ => rfl
        generalize a.eval = ev at *
        go_simp
        (try first | with_reducible rfl | go_num | decide)
      refine RgSteps.cons (fun a w hS hsz hout hd K hK => ?_) ?_
      · rw [if_pos (by rfl)]
        have e37 : a.eval (.tmp 37) = .pointer (some ⟨Z, 1, none⟩) := hd 3 (by kernel_rfl)
        exact rg_load 5 (.tmp 37) rfl ⟨Z, 1, none⟩ (.int .u8 x.mode) e37 (lc_u8 ((BX.out.only hS (by simp)).cell (i := 1) rfl)) (hK.out _ _ rfl (Only.refl _ _))
      refine RgSteps.cons (fun a w hS hsz hout hd K hK => ?_) ?_
      · rw [if_pos (by rfl)]
        have e38 : a.eval (.tmp 38) = .int .u8 x.mode := hd 4 (by kernel_rfl)
        exact rg_row 61 1 _ rfl #[(0, .int .u8 x.mode)] (by simp [e38, eval_const]) _ _ (run_u81 _ w) (hK.out _ _ ⟨w.heap.size, rfl, heap_alloc_new w _⟩ ((Only.refl [] w).alloc _))
      refine RgSteps.cons (fun a w hS hsz hout hd K hK => ?_) ?_
      · rw [if_pos (by rfl)]
        have e36 : a.eval (.tmp 36) = .bool b1 := hd 2 (by kernel_rfl)
        obtain ⟨g39, e39, h39⟩ : ∃ g, a.eval (.tmp 39) = .slice (some ⟨g, 0, none⟩) 1 1 ∧ w.heap[g]? = some (.cells #[.int .u8 x.mode] 5 (0, 0)) := hd 5 (by kernel_rfl)
        refine rg_call 29 _ _ #[.bool b1, .slice (some ⟨g39, 0, none⟩) 1 1, .int .u8 0, .int .u8 3] rfl (by kernel_rfl) (by simp [e36, e39, eval_const]) ((EQ1.out ▸ pfixedU_any b1 (.slice (some ⟨g39, 0, none⟩) 1 1) [x.mode] 0 3 w (holdsU_row h39) (by simp [P16.l, S4.l])).mono ?_)
        rintro e w2 ⟨rfl, o2⟩
        exact ⟨_, rfl, hK.out _ _ rfl (o2 ▸ Only.refl _ _)⟩
      refine RgSteps.cons (fun a w hS hsz hout hd K hK => ?_) ?_
      · rw [if_pos (by rfl)]
        have e3 : a.eval (.tmp 3) = .pointer (some ⟨Z, 0, none⟩) := hout 3 (by kernel_rfl)
        refine rg_value (v := .pointer (some ⟨Z, 0, none⟩)) ?_ (hK.out _ _ rfl (Only.refl _ _))
        clear hd hout hK hsz
        have ec : ∀ v, a.eval (.const v) = v := fun _ => rfl
        generalize a.eval = ev at *
        go_simp
        (try first | with_reducible rfl | go_num | decide)
      refine RgSteps.cons (fun a w hS hsz hout hd K hK => ?_) ?_
      · rw [if_pos (by rfl)]
        have e41 : a.eval (.tmp 41) = .pointer (some ⟨Z, 0, none⟩) := hd 7 (by kernel_rfl)
        exact rg_load 5 (.tmp 41) rfl ⟨Z, 0, none⟩ (.int .u8 x.kind) e41 (lc_u8 ((BX.out.only hS (by simp)).cell (i := 0) rfl)) (hK.out _ _ rfl (Only.refl _ _))
      refine RgSteps.cons (fun a w hS hsz hout hd K hK => ?_) ?_
      · rw [if_pos (by rfl)]
        have e42 : a.eval (.tmp 42) = .int .u8 x.kind := hd 8 (by kernel_rfl)
        have q : (x.kind == 0) = b0 := Q0.out
        refine rg_value (v := .bool b0) ?_ (hK.out _ _ rfl (Only.refl _ _))
        clear hd hout hK hsz
        have ec : ∀ v, a.eval (.const v) = v := fun _ => rfl
        generalize a.eval = ev at *
        go_simp
        (try first | with_reducible rfl | go_num | decide)
      refine RgSteps.cons (fun a w hS hsz hout hd K hK => ?_) ?_
      · rw [if_pos (by rfl)]
        have e43 : a.eval (.tmp 43) = .bool b0 := hd 9 (by kernel_rfl)
        refine rg_value (v := .bool b0) ?_ (hK.out _ _ rfl (Only.refl _ _))
        clear hd hout hK hsz
        have ec : ∀ v, a.eval (.const v) = v := fun _ => rfl
        generalize a.eval = ev at *
        go_simp
        (try first | with_reducible rfl | go_num | decide)
      refine RgSteps.cons (fun a w hS hsz hout hd K hK => ?_) ?_
      · have e44 : a.eval (.tmp 44) = .bool b0 := hd 10 (by kernel_rfl)
        have e3 : a.eval (.tmp 3) = .pointer (some ⟨Z, 0, none⟩) := hout 3 (by kernel_rfl)
        cases b0
        · rw [if_pos (by rw [Region.wanted]; simp only []; rw [yielded_at (j := 10) (t := 44) (b := false) rfl e44]; decide)]
          refine rg_value (v := .pointer (some ⟨Z, 0, none⟩)) ?_ (hK.out _ _ rfl (Only.refl _ _))
          clear hd hout hK hsz
          (try simp only [cond_false] at *)
          have ec : ∀ v, a.eval (.const v) = v := fun _ => rfl
          generalize a.eval = ev at *
          go_simp
          (try with_reducible rfl)
        · rw [if_neg (by rw [Region.wanted]; simp only []; rw [yielded_at (j := 10) (t := 44) (b := true) rfl e44]; decide)]
          exact hK.out _ _ rfl (Only.refl _ _)
      refine RgSteps.cons (fun a w hS hsz hout hd K hK => ?_) ?_
      · have e44 : a.eval (.tmp 44) = .bool b0 := hd 10 (by kernel_rfl)
        have e45 : a.eval (.tmp 45) = (bif b0 then undef else .pointer (some ⟨Z, 0, none⟩)) := hd 11 (by kernel_rfl)
        cases b0
        · rw [if_pos (by rw [Region.wanted]; simp only []; rw [yielded_at (j := 10) (t := 44) (b := false) rfl e44]; decide)]
          exact rg_load 5 (.tmp 45) rfl ⟨Z, 0, none⟩ (.int .u8 x.kind) e45 (lc_u8 ((BX.out.only hS (by simp)).cell (i := 0) rfl)) (hK.out _ _ rfl (Only.refl _ _))
        · rw [if_neg (by rw [Region.wanted]; simp only []; rw [yielded_at (j := 10) (t := 44) (b := true) rfl e44]; decide)]
          exact hK.out _ _ rfl (Only.refl _ _)
      refine RgSteps.cons (fun a w hS hsz hout hd K hK => ?_) ?_
      · have e44 : a.eval (.tmp 44) = .bool b0 := hd 10 (by kernel_rfl)
        have e46 : a.eval (.tmp 46) = (bif b0 then undef else .int .u8 x.kind) := hd 12 (by kernel_rfl)
        cases b0
        · rw [if_pos (by rw [Region.wanted]; simp only []; rw [yielded_at (j := 10) (t := 44) (b := false) rfl e44]; decide)]
          have q : (x.kind == 1) = b1 := Q1.out
          refine rg_value (v := .bool b1) ?_ (hK.out _ _ rfl (Only.refl _ _))
          clear hd hout hK hsz
          (try simp only [cond_false] at *)
          have ec : ∀ v, a.eval (.const v) = v := fun _ => rfl
          generalize a.eval = ev at *
          go_simp
          (try with_reducible rfl)
        · rw [if_neg (by rw [Region.wanted]; simp only []; rw [yielded_at (j := 10) (t := 44) (b := true) rfl e44]; decide)]
          exact hK.out _ _ rfl (Only.refl _ _)
      refine RgSteps.cons (fun a w hS hsz hout hd K hK => ?_) ?_
      · rw [if_pos (by rfl)]
        have e44 : a.eval (.tmp 44) = .bool b0 := hd 10 (by kernel_rfl)
        have e47 : a.eval (.tmp 47) = (bif b0 then undef else .bool b1) := hd 13 (by kernel_rfl)
        refine rg_value (v := .bool (b0 || b1)) ?_ (hK.out _ _ rfl (Only.refl _ _))
        clear hd hout hK hsz
        have ec : ∀ v, a.eval (.const v) = v := fun _ => rfl
        generalize a.eval = ev at *
        cases b0
        · simp only [cond_false] at e47
          go_simp
          (try with_reducible rfl)
        · simp only [cond_true] at e47
          go_simp
          (try with_reducible rfl)
      refine RgSteps.cons (fun a w hS hsz hout hd K hK => ?_) ?_
      · rw [if_pos (by rfl)]
        have e3 : a.eval (.tmp 3) = .pointer (some ⟨Z, 0, none⟩) := hout 3 (by kernel_rfl)
        refine rg_value (v := .pointer (some ⟨Z, 2, none⟩)) ?_ (hK.out _ _ rfl (Only.refl _ _))
        clear hd hout hK hsz
        have ec : ∀ v, a.eval (.const v) = v := fun _ => rfl
        generalize a.eval = ev at *
        go_simp
        (try first | with_reducible rfl | go_num | decide)
      refine RgSteps.cons (fun a w hS hsz hout hd K hK => ?_) ?_
      · rw [if_pos (by rfl)]
        have e49 : a.eval (.tmp 49) = .pointer (some ⟨Z, 2, none⟩) := hd 15 (by kernel_rfl)
        exact rg_load 5 (.tmp 49) rfl ⟨Z, 2, none⟩ (.int .u8 x.chroma) e49 (lc_u8 ((BX.out.only hS (by simp)).cell (i := 2) rfl)) (hK.out _ _ rfl (Only.refl _ _))
      refine RgSteps.cons (fun a w hS hsz hout hd K hK => ?_) ?_
      · rw [if_pos (by rfl)]
        have e50 : a.eval (.tmp 50) = .int .u8 x.chroma := hd 16 (by kernel_rfl)
        exact rg_row 61 1 _ rfl #[(0, .int .u8 x.chroma)] (by simp [e50, eval_const]) _ _ (run_u81 _ w) (hK.out _ _ ⟨w.heap.size, rfl, heap_alloc_new w _⟩ ((Only.refl [] w).alloc _))
      refine RgSteps.cons (fun a w hS hsz hout hd K hK => ?_) ?_
      · rw [if_pos (by rfl)]
        have e48 : a.eval (.tmp 48) = .bool (b0 || b1) := hd 14 (by kernel_rfl)
        obtain ⟨g51, e51, h51⟩ : ∃ g, a.eval (.tmp 51) = .slice (some ⟨g, 0, none⟩) 1 1 ∧ w.heap[g]? = some (.cells #[.int .u8 x.chroma] 5 (0, 0)) := hd 17 (by kernel_rfl)
        refine rg_call 29 _ _ #[.bool (b0 || b1), .slice (some ⟨g51, 0, none⟩) 1 1, .int .u8 0, .int .u8 3] rfl (by kernel_rfl) (by simp [e48, e51, eval_const]) ((EQ2.out ▸ pfixedU_any (b0 || b1) (.slice (some ⟨g51, 0, none⟩) 1 1) [x.chroma] 0 3 w (holdsU_row h51) (by simp [P16.l, S4.l])).mono ?_)
        rintro e w2 ⟨rfl, o2⟩
        exact ⟨_, rfl, hK.out _ _ rfl (o2 ▸ Only.refl _ _)⟩
      refine RgSteps.cons (fun a w hS hsz hout hd K hK => ?_) ?_
      · rw [if_pos (by rfl)]
        have e3 : a.eval (.tmp 3) = .pointer (some ⟨Z, 0, none⟩) := hout 3 (by kernel_rfl)
        refine rg_value (v := .pointer (some ⟨Z, 0, none⟩)) ?_ (hK.out _ _ rfl (Only.refl _ _))
        clear hd hout hK hsz
        have ec : ∀ v, a.eval (.const v) = v := fun _ => rfl
        generalize a.eval = ev at *
        go_simp
        (try first | with_reducible rfl | go_num | decide)
      refine RgSteps.cons (fun a w hS hsz hout hd K hK => ?_) ?_
      · rw [if_pos (by rfl)]
        have e53 : a.eval (.tmp 53) = .pointer (some ⟨Z, 0, none⟩) := hd 19 (by kernel_rfl)
        exact rg_load 5 (.tmp 53) rfl ⟨Z, 0, none⟩ (.int .u8 x.kind) e53 (lc_u8 ((BX.out.only hS (by simp)).cell (i := 0) rfl)) (hK.out _ _ rfl (Only.refl _ _))
      refine RgSteps.cons (fun a w hS hsz hout hd K hK => ?_) ?_
      · rw [if_pos (by rfl)]
        have e54 : a.eval (.tmp 54) = .int .u8 x.kind := hd 20 (by kernel_rfl)
        have q : (x.kind == 0) = b0 := Q0.out
        refine rg_value (v := .bool b0) ?_ (hK.out _ _ rfl (Only.refl _ _))
        clear hd hout hK hsz
        have ec : ∀ v, a.eval (.const v) = v := fun _ => rfl
        generalize a.eval = ev at *
        go_simp
        (try first | with_reducible rfl | go_num | decide)
      refine RgSteps.cons (fun a w hS hsz hout hd K hK => ?_) ?_
      · rw [if_pos (by rfl)]
        have e3 : a.eval (.tmp 3) = .pointer (some ⟨Z, 0, none⟩) := hout 3 (by kernel_rfl)
        refine rg_value (v := .pointer (some ⟨Z, 3, none⟩)) ?_ (hK.out _ _ rfl (Only.refl _ _))
        clear hd hout hK hsz
        have ec : ∀ v, a.eval (.const v) = v := fun _ => rfl
        generalize a.eval = ev at *
        go_simp
        (try first | with_reducible rfl | go_num | decide)
      refine RgSteps.cons (fun a w hS hsz hout hd K hK => ?_) ?_
      · rw [if_pos (by rfl)]
        have e56 : a.eval (.tmp 56) = .pointer (some ⟨Z, 3, none⟩) := hd 22 (by kernel_rfl)
        refine rg_value (v := .slice (some ⟨Z, 3, none⟩) 16 16) ?_ (hK.out _ _ rfl (Only.refl _ _))
        exact run_arr16 a w _ e56 rfl
      refine RgSteps.cons (fun a w hS hsz hout hd K hK => ?_) ?_
      · rw [if_pos (by rfl)]
        have e55 : a.eval (.tmp 55) = .bool b0 := hd 21 (by kernel_rfl)
        have e57 : a.eval (.tmp 57) = .slice (some ⟨Z, 3, none⟩) 16 16 := hd 23 (by kernel_rfl)
        refine rg_call 29 _ _ #[.bool b0, .slice (some ⟨Z, 3, none⟩) 16 16, .int .u8 0, .int .u8 8] rfl (by kernel_rfl) (by simp [e55, e57, eval_const]) ((EQ3.out ▸ pfixedU_any b0 (.slice (some ⟨Z, 3, none⟩) 16 16) x.pr.l 0 8 w (holds_pr (BX.out.only hS (by simp))) (by simp [P16.l, S4.l])).mono ?_)
        rintro e w2 ⟨rfl, o2⟩
        exact ⟨_, rfl, hK.out _ _ rfl (o2 ▸ Only.refl _ _)⟩
      refine RgSteps.cons (fun a w hS hsz hout hd K hK => ?_) ?_
      · rw [if_pos (by rfl)]
        have e3 : a.eval (.tmp 3) = .pointer (some ⟨Z, 0, none⟩) := hout 3 (by kernel_rfl)
        refine rg_value (v := .pointer (some ⟨Z, 0, none⟩)) ?_ (hK.out _ _ rfl (Only.refl _ _))
        clear hd hout hK hsz
        have ec : ∀ v, a.eval (.const v) = v := fun _ => rfl
        generalize a.eval = ev at *
        go_simp
        (try first | with_reducible rfl | go_num | decide)
      refine RgSteps.cons (fun a w hS hsz hout hd K hK => ?_) ?_
      · rw [if_pos (by rfl)]
        have e59 : a.eval (.tmp 59) = .pointer (some ⟨Z, 0, none⟩) := hd 25 (by kernel_rfl)
        exact rg_load 5 (.tmp 59) rfl ⟨Z, 0, none⟩ (.int .u8 x.kind) e59 (lc_u8 ((BX.out.only hS (by simp)).cell (i := 0) rfl)) (hK.out _ _ rfl (Only.refl _ _))
      refine RgSteps.cons (fun a w hS hsz hout hd K hK => ?_) ?_
      · rw [if_pos (by rfl)]
        have e60 : a.eval (.tmp 60) = .int .u8 x.kind := hd 26 (by kernel_rfl)
        have q : (x.kind == 6) = b6 := Q6.out
        refine rg_value (v := .bool b6) ?_ (hK.out _ _ rfl (Only.refl _ _))
        clear hd hout hK hsz
        have ec : ∀ v, a.eval (.const v) = v := fun _ => rfl
        generalize a.eval = ev at *
        go_simp
        (try first | with_reducible rfl | go_num | decide)
      refine RgSteps.cons (fun a w hS hsz hout hd K hK => ?_) ?_
      · rw [if_pos (by rfl)]
        have e3 : a.eval (.tmp 3) = .pointer (some ⟨Z, 0, none⟩) := hout 3 (by kernel_rfl)
        refine rg_value (v := .pointer (some ⟨Z, 19, none⟩)) ?_ (hK.out _ _ rfl (Only.refl _ _))
        clear hd hout hK hsz
        have ec : ∀ v, a.eval (.const v) = v := fun _ => rfl
        generalize a.eval = ev at *
        go_simp
        (try first | with_reducible rfl | go_num | decide)
      refine RgSteps.cons (fun a w hS hsz hout hd K hK => ?_) ?_
      · rw [if_pos (by rfl)]
        have e62 : a.eval (.tmp 62) = .pointer (some ⟨Z, 19, none⟩) := hd 28 (by kernel_rfl)
        refine rg_value (v := .slice (some ⟨Z, 19, none⟩) 4 4) ?_ (hK.out _ _ rfl (Only.refl _ _))
        exact run_arr4 a w _ e62 rfl
      refine RgSteps.cons (fun a w hS hsz hout hd K hK => ?_) ?_
      · rw [if_pos (by rfl)]
        have e61 : a.eval (.tmp 61) = .bool b6 := hd 27 (by kernel_rfl)
        have e63 : a.eval (.tmp 63) = .slice (some ⟨Z, 19, none⟩) 4 4 := hd 29 (by kernel_rfl)
        refine rg_call 29 _ _ #[.bool b6, .slice (some ⟨Z, 19, none⟩) 4 4, .int .u8 0, .int .u8 3] rfl (by kernel_rfl) (by simp [e61, e63, eval_const]) ((EQ4.out ▸ pfixedU_any b6 (.slice (some ⟨Z, 19, none⟩) 4 4) x.sb.l 0 3 w (holds_sb (BX.out.only hS (by simp))) (by simp [P16.l, S4.l])).mono ?_)
        rintro e w2 ⟨rfl, o2⟩
        exact ⟨_, rfl, hK.out _ _ rfl (o2 ▸ Only.refl _ _)⟩
      refine RgSteps.cons (fun a w hS hsz hout hd K hK => ?_) ?_
      · rw [if_pos (by rfl)]
        have e3 : a.eval (.tmp 3) = .pointer (some ⟨Z, 0, none⟩) := hout 3 (by kernel_rfl)
        refine rg_value (v := .pointer (some ⟨Z, 23, none⟩)) ?_ (hK.out _ _ rfl (Only.refl _ _))
        clear hd hout hK hsz
        have ec : ∀ v, a.eval (.const v) = v := fun _ => rfl
        generalize a.eval = ev at *
        go_simp
        (try first | with_reducible rfl | go_num | decide)
      refine RgSteps.cons (fun a w hS hsz hout hd K hK => ?_) ?_
      · rw [if_pos (by rfl)]
        have e65 : a.eval (.tmp 65) = .pointer (some ⟨Z, 23, none⟩) := hd 31 (by kernel_rfl)
        exact rg_load 24 (.tmp 65) rfl ⟨Z, 23, none⟩ (rv) e65 (lc_is ((BX.out.only hS (by simp)).cell (i := 23) rfl)) (hK.out _ _ rfl (Only.refl _ _))
      refine RgSteps.cons (fun a w hS hsz hout hd K hK => ?_) ?_
      · rw [if_pos (by rfl)]
        have e3 : a.eval (.tmp 3) = .pointer (some ⟨Z, 0, none⟩) := hout 3 (by kernel_rfl)
        refine rg_value (v := .pointer (some ⟨Z, 0, none⟩)) ?_ (hK.out _ _ rfl (Only.refl _ _))
        clear hd hout hK hsz
        have ec : ∀ v, a.eval (.const v) = v := fun _ => rfl
        generalize a.eval = ev at *
        go_simp
        (try first | with_reducible rfl | go_num | decide)
      refine RgSteps.cons (fun a w hS hsz hout hd K hK => ?_) ?_
      · rw [if_pos (by rfl)]
        have e67 : a.eval (.tmp 67) = .pointer (some ⟨Z, 0, none⟩) := hd 33 (by kernel_rfl)
        exact rg_load 5 (.tmp 67) rfl ⟨Z, 0, none⟩ (.int .u8 x.kind) e67 (lc_u8 ((BX.out.only hS (by simp)).cell (i := 0) rfl)) (hK.out _ _ rfl (Only.refl _ _))
      refine RgSteps.cons (fun a w hS hsz hout hd K hK => ?_) ?_
      · rw [if_pos (by rfl)]
        have e68 : a.eval (.tmp 68) = .int .u8 x.kind := hd 34 (by kernel_rfl)
        refine rg_call 31 _ _ #[.int .u8 x.kind] rfl (by kernel_rfl) (by simp [e68, eval_const]) ((pparts_any x.kind w (V.out.only0 hS) KB.out.1 KB.out.2).mono ?_)
        rintro e w2 ⟨rfl, o2⟩
        exact ⟨_, rfl, hK.out _ _ rfl (o2 ▸ Only.refl _ _)⟩
      refine RgSteps.cons (fun a w hS hsz hout hd K hK => ?_) ?_
      · rw [if_pos (by rfl)]
        have e2 : a.eval (.tmp 2) = .int .i64 refs := hout 2 (by kernel_rfl)
        refine rg_value (v := .int .i64 refs) ?_ (hK.out _ _ rfl (Only.refl _ _))
        clear hd hout hK hsz
        have ec : ∀ v, a.eval (.const v) = v := fun _ => rfl
        generalize a.eval = ev at *
        go_simp
        (try first | with_reducible rfl | go_num | decide)
      refine RgSteps.cons (fun a w hS hsz hout hd K hK => ?_) ?_
      · rw [if_pos (by rfl)]
        have e70 : a.eval (.tmp 70) = .int .i64 refs := hd 36 (by kernel_rfl)
        have wr1 : IntKind.i64.wrap (refs - 1) = refs - 1 := IntWalk.i64_in _ (by omega)
        refine rg_value (v := .int .i64 (refs - 1)) ?_ (hK.out _ _ rfl (Only.refl _ _))
        clear hd hout hK hsz
        have ec : ∀ v, a.eval (.const v) = v := fun _ => rfl
        generalize a.eval = ev at *
        go_simp
        (try first | with_reducible rfl | go_num | decide)
      refine RgSteps.cons (fun a w hS hsz hout hd K hK => ?_) ?_
      · rw [if_pos (by rfl)]
        have e66 : a.eval (.tmp 66) = rv := hd 32 (by kernel_rfl)
        have e69 : a.eval (.tmp 69) = .int .i64 (partsI x.kind) := hd 35 (by kernel_rfl)
        have e71 : a.eval (.tmp 71) = .int .i64 (refs - 1) := hd 37 (by kernel_rfl)
        refine rg_call 30 _ _ #[rv, .int .i64 (partsI x.kind), .int .i64 0, .int .i64 (refs - 1)] rfl (by kernel_rfl) (by simp [e66, e69, e71, eval_const]) ((EQ5.out ▸ plist_any rv x.refs (partsI x.kind) 0 (refs - 1) w (HM.out.r.only0 hS) (by have := LF.out.r; omega)).mono ?_)
        rintro e w2 ⟨rfl, o2⟩
        exact ⟨_, rfl, hK.out _ _ rfl (o2 ▸ Only.refl _ _)⟩
      refine RgSteps.cons (fun a w hS hsz hout hd K hK => ?_) ?_
      · rw [if_pos (by rfl)]
        have e3 : a.eval (.tmp 3) = .pointer (some ⟨Z, 0, none⟩) := hout 3 (by kernel_rfl)
        exact rg_load 28 (.tmp 3) rfl ⟨Z, 0, none⟩ (mV x rv vv bv) e3 ((BX.out.only hS (by simp)).mb) (hK.out _ _ rfl (Only.refl _ _))
      refine RgSteps.cons (fun a w hS hsz hout hd K hK => ?_) ?_
      · rw [if_pos (by rfl)]
        have e73 : a.eval (.tmp 73) = mV x rv vv bv := hd 39 (by kernel_rfl)
        refine rg_call 32 _ _ #[mV x rv vv bv] rfl (by kernel_rfl) (by simp [e73, eval_const]) ((EQ6.out ▸ pmvds_any x rv vv bv w (V.out.only0 hS) XI.out (HM.out.v.only0 hS) (by have := LF.out.v; omega)).mono ?_)
        rintro e w2 ⟨rfl, o2⟩
        exact ⟨_, rfl, hK.out _ _ rfl o2⟩
      refine RgSteps.cons (fun a w hS hsz hout hd K hK => ?_) ?_
      · rw [if_pos (by rfl)]
        have e3 : a.eval (.tmp 3) = .pointer (some ⟨Z, 0, none⟩) := hout 3 (by kernel_rfl)
        exact rg_load 28 (.tmp 3) rfl ⟨Z, 0, none⟩ (mV x rv vv bv) e3 ((BX.out.only hS (by simp)).mb) (hK.out _ _ rfl (Only.refl _ _))
      refine RgSteps.cons (fun a w hS hsz hout hd K hK => ?_) ?_
      · rw [if_pos (by rfl)]
        have e75 : a.eval (.tmp 75) = mV x rv vv bv := hd 41 (by kernel_rfl)
        refine rg_call 33 _ _ #[mV x rv vv bv] rfl (by kernel_rfl) (by simp [e75, eval_const]) ((EQ7.out ▸ pcbp_any x rv vv bv w XI.out).mono ?_)
        rintro e w2 ⟨rfl, o2⟩
        exact ⟨_, rfl, hK.out _ _ rfl o2⟩
      refine RgSteps.cons (fun a w hS hsz hout hd K hK => ?_) ?_
      · rw [if_pos (by rfl)]
        have e3 : a.eval (.tmp 3) = .pointer (some ⟨Z, 0, none⟩) := hout 3 (by kernel_rfl)
        exact rg_load 28 (.tmp 3) rfl ⟨Z, 0, none⟩ (mV x rv vv bv) e3 ((BX.out.only hS (by simp)).mb) (hK.out _ _ rfl (Only.refl _ _))
      refine RgSteps.cons (fun a w hS hsz hout hd K hK => ?_) ?_
      · rw [if_pos (by rfl)]
        have e77 : a.eval (.tmp 77) = mV x rv vv bv := hd 43 (by kernel_rfl)
        refine rg_call 35 _ _ #[mV x rv vv bv] rfl (by kernel_rfl) (by simp [e77, eval_const]) ((phasqp_any x rv vv bv w).mono ?_)
        rintro e w2 ⟨rfl, o2⟩
        exact ⟨_, rfl, hK.out _ _ rfl o2⟩
      refine RgSteps.cons (fun a w hS hsz hout hd K hK => ?_) ?_
      · rw [if_pos (by rfl)]
        have e3 : a.eval (.tmp 3) = .pointer (some ⟨Z, 0, none⟩) := hout 3 (by kernel_rfl)
        refine rg_value (v := .pointer (some ⟨Z, 26, none⟩)) ?_ (hK.out _ _ rfl (Only.refl _ _))
        clear hd hout hK hsz
        have ec : ∀ v, a.eval (.const v) = v := fun _ => rfl
        generalize a.eval = ev at *
        go_simp
        (try first | with_reducible rfl | go_num | decide)
      refine RgSteps.cons (fun a w hS hsz hout hd K hK => ?_) ?_
      · rw [if_pos (by rfl)]
        have e79 : a.eval (.tmp 79) = .pointer (some ⟨Z, 26, none⟩) := hd 45 (by kernel_rfl)
        exact rg_load 3 (.tmp 79) rfl ⟨Z, 26, none⟩ (.int .i64 x.qp) e79 (lc_i64 ((BX.out.only hS (by simp)).cell (i := 26) rfl)) (hK.out _ _ rfl (Only.refl _ _))
      refine RgSteps.cons (fun a w hS hsz hout hd K hK => ?_) ?_
      · rw [if_pos (by rfl)]
        have e80 : a.eval (.tmp 80) = .int .i64 x.qp := hd 46 (by kernel_rfl)
        exact rg_row 24 1 _ rfl #[(0, .int .i64 x.qp)] (by simp [e80, eval_const]) _ _ (run_i1 _ w) (hK.out _ _ ⟨w.heap.size, rfl, heap_alloc_new w _⟩ ((Only.refl [] w).alloc _))
      refine RgSteps.cons (fun a w hS hsz hout hd K hK => ?_) ?_
      · rw [if_pos (by rfl)]
        have e78 : a.eval (.tmp 78) = .bool (hasQ x) := hd 44 (by kernel_rfl)
        obtain ⟨g81, e81, h81⟩ : ∃ g, a.eval (.tmp 81) = .slice (some ⟨g, 0, none⟩) 1 1 ∧ w.heap[g]? = some (.cells #[.int .i64 x.qp] 3 (0, 0)) := hd 47 (by kernel_rfl)
        refine rg_call 34 _ _ #[.bool (hasQ x), .slice (some ⟨g81, 0, none⟩) 1 1, .int .i64 (-26), .int .i64 25] rfl (by kernel_rfl) (by simp [e78, e81, eval_const]) ((EQ8.out ▸ pfixedI_any (hasQ x) (.slice (some ⟨g81, 0, none⟩) 1 1) [x.qp] (-26) 25 w (holdsI_row1 h81) (by simp)).mono ?_)
        rintro e w2 ⟨rfl, o2⟩
        exact ⟨_, rfl, hK.out _ _ rfl (o2 ▸ Only.refl _ _)⟩
      refine RgSteps.cons (fun a w hS hsz hout hd K hK => ?_) ?_
      · rw [if_pos (by rfl)]
        have e3 : a.eval (.tmp 3) = .pointer (some ⟨Z, 0, none⟩) := hout 3 (by kernel_rfl)
        exact rg_load 28 (.tmp 3) rfl ⟨Z, 0, none⟩ (mV x rv vv bv) e3 ((BX.out.only hS (by simp)).mb) (hK.out _ _ rfl (Only.refl _ _))
      refine RgSteps.cons (fun a w hS hsz hout hd K hK => ?_) ?_
      · rw [if_pos (by rfl)]
        have e83 : a.eval (.tmp 83) = mV x rv vv bv := hd 49 (by kernel_rfl)
        refine rg_call 36 _ _ #[mV x rv vv bv] rfl (by kernel_rfl) (by simp [e83, eval_const]) ((EQ9.out ▸ pblks_any x rv vv bv w (V.out.only0 hS) XI.out (HM.out.b.only0 hS) (by have := LF.out.b; omega) (fun l hl => by have := LF.out.i l hl; omega)).mono ?_)
        rintro e w2 ⟨rfl, o2⟩
        exact ⟨_, rfl, hK.out _ _ rfl o2⟩
      refine RgSteps.cons (fun a w hS hsz hout hd K hK => ?_) ?_
      · rw [if_pos (by rfl)]
        have e3 : a.eval (.tmp 3) = .pointer (some ⟨Z, 0, none⟩) := hout 3 (by kernel_rfl)
        exact rg_load 28 (.tmp 3) rfl ⟨Z, 0, none⟩ (mV x rv vv bv) e3 ((BX.out.only hS (by simp)).mb) (hK.out _ _ rfl (Only.refl _ _))
      refine RgSteps.cons (fun a w hS hsz hout hd K hK => ?_) ?_
      · rw [if_pos (by rfl)]
        have e85 : a.eval (.tmp 85) = mV x rv vv bv := hd 51 (by kernel_rfl)
        refine rg_call 37 _ _ #[mV x rv vv bv] rfl (by kernel_rfl) (by simp [e85, eval_const]) ((EQ10.out ▸ ppcm_any x rv vv bv w).mono ?_)
        rintro e w2 ⟨rfl, o2⟩
        exact ⟨_, rfl, hK.out _ _ rfl o2⟩
      refine RgSteps.cons (fun a w hS hsz hout hd K hK => ?_) ?_
      · rw [if_pos (by rfl)]
        have e40 : a.eval (.tmp 40) = .int .i64 e1 := hd 6 (by kernel_rfl)
        have e52 : a.eval (.tmp 52) = .int .i64 e2 := hd 18 (by kernel_rfl)
        have e58 : a.eval (.tmp 58) = .int .i64 e3 := hd 24 (by kernel_rfl)
        have e64 : a.eval (.tmp 64) = .int .i64 e4 := hd 30 (by kernel_rfl)
        have e72 : a.eval (.tmp 72) = .int .i64 e5 := hd 38 (by kernel_rfl)
        have e74 : a.eval (.tmp 74) = .int .i64 e6 := hd 40 (by kernel_rfl)
        have e76 : a.eval (.tmp 76) = .int .i64 e7 := hd 42 (by kernel_rfl)
        have e82 : a.eval (.tmp 82) = .int .i64 e8 := hd 48 (by kernel_rfl)
        have e84 : a.eval (.tmp 84) = .int .i64 e9 := hd 50 (by kernel_rfl)
        have e86 : a.eval (.tmp 86) = .int .i64 e10 := hd 52 (by kernel_rfl)
        exact rg_row 68 10 _ rfl #[(0, .int .i64 e1), (1, .int .i64 e2), (2, .int .i64 e3), (3, .int .i64 e4), (4, .int .i64 e5), (5, .int .i64 e6), (6, .int .i64 e7), (7, .int .i64 e8), (8, .int .i64 e9), (9, .int .i64 e10)] (by simp [e40, e52, e58, e64, e72, e74, e76, e82, e84, e86, eval_const]) _ _ (run_e10 _ _ _ _ _ _ _ _ _ _ w) (hK.out _ _ ⟨w.heap.size, rfl, heap_alloc_new w _⟩ ((Only.refl [] w).alloc _))
      refine RgSteps.cons (fun a w hS hsz hout hd K hK => ?_) ?_
      · rw [if_pos (by rfl)]
        obtain ⟨g87, e87, h87⟩ : ∃ g, a.eval (.tmp 87) = .slice (some ⟨g, 0, none⟩) 10 10 ∧ w.heap[g]? = some (.cells #[.int .i64 e1, .int .i64 e2, .int .i64 e3, .int .i64 e4, .int .i64 e5, .int .i64 e6, .int .i64 e7, .int .i64 e8, .int .i64 e9, .int .i64 e10] 30 (0, 0)) := hd 53 (by kernel_rfl)
        refine rg_call 28 _ _ #[.slice (some ⟨g87, 0, none⟩) 10 10] rfl (by kernel_rfl) (by simp [e87, eval_const]) ((RS.out ▸ por_any (.slice (some ⟨g87, 0, none⟩) 10 10) [e1, e2, e3, e4, e5, e6, e7, e8, e9, e10] w (holds_cells [e1, e2, e3, e4, e5, e6, e7, e8, e9, e10] rfl h87 (by simp)) (by simp)).mono ?_)
        rintro e w2 ⟨rfl, o2⟩
        exact ⟨_, rfl, hK.out _ _ rfl (o2 ▸ Only.refl _ _)⟩
      refine RgSteps.cons (fun a w hS hsz hout hd K hK => ?_) ?_
      · rw [if_pos (by rfl)]
        have e88 : a.eval (.tmp 88) = .int .i64 res := hd 54 (by kernel_rfl)
        refine rg_value (v := .int .i64 res) ?_ (hK.out _ _ rfl (Only.refl _ _))
        clear hd hout hK hsz
        have ec : ∀ v, a.eval (.const v) = v := fun _ => rfl
        generalize a.eval = ev at *
        go_simp
        (try first | with_reducible rfl | go_num | decide)
      exact RgSteps.nil _
    · intro a w hS hsz hdf hout hall
      have e6' : a.eval (.tmp 6) = .int .i64 res := hall 55 rfl
      have OF := hid hS
      go_wp2_with fail
      refine bodyPost_ret (results_tmp rfl a.tmps _ _) hdf ?_
      exact ⟨congrArg Ending.returned e6', oW.out.trans OF.out⟩
  · simp only [refsOk, if_true, decide_eq_true_eq] at hr
    have ki2 : intraI x.kind = true := by simpa using ki
    rw [ki2] at INT
    subst hr
    clear ki ki2
    go_enter Tryd.func11, Tryd.ntmps11
    go_wp2_with (refine wp_box rfl 28 (.tmp 0) rfl (mC x rv vv bv).toArray rfl HW.out HZ.out ?_; simp only [Act.put, List.setIfInBounds_toArray, List.set_cons_zero, List.set_cons_succ])
    refine (INT.out _).mono ?_
    rintro e w2 ⟨rfl, rfl⟩
    go_wp2_with fail
    clear c0 k7 INT
    refine wp_region_rgT (m := 56) [.val (.pointer (some ⟨Z, 0, none⟩)), .val (.int .u8 x.kind), .val (.bool b1), .val (.pointer (some ⟨Z, 1, none⟩)), .val (.int .u8 x.mode), .row 5 1 (#[.int .u8 x.mode]), .val (.int .i64 e1), .val (.pointer (some ⟨Z, 0, none⟩)), .val (.int .u8 x.kind), .val (.bool b0), .val (.bool b0), .val (bif b0 then undef else .pointer (some ⟨Z, 0, none⟩)), .val (bif b0 then undef else .int .u8 x.kind), .val (bif b0 then undef else .bool b1), .val (.bool (b0 || b1)), .val (.pointer (some ⟨Z, 2, none⟩)), .val (.int .u8 x.chroma), .row 5 1 (#[.int .u8 x.chroma]), .val (.int .i64 e2), .val (.pointer (some ⟨Z, 0, none⟩)), .val (.int .u8 x.kind), .val (.bool b0), .val (.pointer (some ⟨Z, 3, none⟩)), .val (.slice (some ⟨Z, 3, none⟩) 16 16), .val (.int .i64 e3), .val (.pointer (some ⟨Z, 0, none⟩)), .val (.int .u8 x.kind), .val (.bool b6), .val (.pointer (some ⟨Z, 19, none⟩)), .val (.slice (some ⟨Z, 19, none⟩) 4 4), .val (.int .i64 e4), .val (.pointer (some ⟨Z, 23, none⟩)), .val (rv), .val (.pointer (some ⟨Z, 0, none⟩)), .val (.int .u8 x.kind), .val (.int .i64 (partsI x.kind)), .val (.int .i64 0), .val (.int .i64 (0 - 1)), .val (.int .i64 e5), .val (mV x rv vv bv), .val (.int .i64 e6), .val (mV x rv vv bv), .val (.int .i64 e7), .val (mV x rv vv bv), .val (.bool (hasQ x)), .val (.pointer (some ⟨Z, 26, none⟩)), .val (.int .i64 x.qp), .row 3 1 (#[.int .i64 x.qp]), .val (.int .i64 e8), .val (mV x rv vv bv), .val (.int .i64 e9), .val (mV x rv vv bv), .val (.int .i64 e10), .row 30 10 (#[.int .i64 e1, .int .i64 e2, .int .i64 e3, .int .i64 e4, .int .i64 e5, .int .i64 e6, .int .i64 e7, .int .i64 e8, .int .i64 e9, .int .i64 e10]), .val (.int .i64 res), .val (.int .i64 res)] (by kernel_rfl) rfl (by kernel_rfl) ?_ ?_
    · refine RgSteps.cons (fun a w hS hsz hout hd K hK => ?_) ?_
      · rw [if_pos (by rfl)]
        have e3 : a.eval (.tmp 3) = .pointer (some ⟨Z, 0, none⟩) := hout 3 (by kernel_rfl)
        refine rg_value (v := .pointer (some ⟨Z, 0, none⟩)) ?_ (hK.out _ _ rfl (Only.refl _ _))
        clear hd hout hK hsz
        have ec : ∀ v, a.eval (.const v) = v := fun _ => rfl
        generalize a.eval = ev at *
        go_simp
        (try first | with_reducible rfl | go_num | decide)
      refine RgSteps.cons (fun a w hS hsz hout hd K hK => ?_) ?_
      · rw [if_pos (by rfl)]
        have e34 : a.eval (.tmp 34) = .pointer (some ⟨Z, 0, none⟩) := hd 0 (by kernel_rfl)
        exact rg_load 5 (.tmp 34) rfl ⟨Z, 0, none⟩ (.int .u8 x.kind) e34 (lc_u8 ((BX.out.only hS (by simp)).cell (i := 0) rfl)) (hK.out _ _ rfl (Only.refl _ _))
      refine RgSteps.cons (fun a w hS hsz hout hd K hK => ?_) ?_
      · rw [if_pos (by rfl)]
        have e35 : a.eval (.tmp 35) = .int .u8 x.kind := hd 1 (by kernel_rfl)
        have q : (x.kind == 1) = b1 := Q1.out
        refine rg_value (v := .bool b1) ?_ (hK.out _ _ rfl (Only.refl _ _))
        clear hd hout hK hsz
        have ec : ∀ v, a.eval (.const v) = v := fun _ => rfl
        generalize a.eval = ev at *
        go_simp
        (try first | with_reducible rfl | go_num | decide)
      refine RgSteps.cons (fun a w hS hsz hout hd K hK => ?_) ?_
      · rw [if_pos (by rfl)]
        have e3 : a.eval (.tmp 3) = .pointer (some ⟨Z, 0, none⟩) := hout 3 (by kernel_rfl)
        refine rg_value (v := .pointer (some ⟨Z, 1, none⟩)) ?_ (hK.out _ _ rfl (Only.refl _ _))
        clear hd hout hK hsz
        have ec : ∀ v, a.eval (.const v) = v := fun _ => rfl
        generalize a.eval = ev at *
        go_simp
        (try first | with_reducible rfl | go_num | decide)
      refine RgSteps.cons (fun a w hS hsz hout hd K hK => ?_) ?_
      · rw [if_pos (by rfl)]
        have e37 : a.eval (.tmp 37) = .pointer (some ⟨Z, 1, none⟩) := hd 3 (by kernel_rfl)
        exact rg_load 5 (.tmp 37) rfl ⟨Z, 1, none⟩ (.int .u8 x.mode) e37 (lc_u8 ((BX.out.only hS (by simp)).cell (i := 1) rfl)) (hK.out _ _ rfl (Only.refl _ _))
      refine RgSteps.cons (fun a w hS hsz hout hd K hK => ?_) ?_
      · rw [if_pos (by rfl)]
        have e38 : a.eval (.tmp 38) = .int .u8 x.mode := hd 4 (by kernel_rfl)
        exact rg_row 61 1 _ rfl #[(0, .int .u8 x.mode)] (by simp [e38, eval_const]) _ _ (run_u81 _ w) (hK.out _ _ ⟨w.heap.size, rfl, heap_alloc_new w _⟩ ((Only.refl [] w).alloc _))
      refine RgSteps.cons (fun a w hS hsz hout hd K hK => ?_) ?_
      · rw [if_pos (by rfl)]
        have e36 : a.eval (.tmp 36) = .bool b1 := hd 2 (by kernel_rfl)
        obtain ⟨g39, e39, h39⟩ : ∃ g, a.eval (.tmp 39) = .slice (some ⟨g, 0, none⟩) 1 1 ∧ w.heap[g]? = some (.cells #[.int .u8 x.mode] 5 (0, 0)) := hd 5 (by kernel_rfl)
        refine rg_call 29 _ _ #[.bool b1, .slice (some ⟨g39, 0, none⟩) 1 1, .int .u8 0, .int .u8 3] rfl (by kernel_rfl) (by simp [e36, e39, eval_const]) ((EQ1.out ▸ pfixedU_any b1 (.slice (some ⟨g39, 0, none⟩) 1 1) [x.mode] 0 3 w (holdsU_row h39) (by simp [P16.l, S4.l])).mono ?_)
        rintro e w2 ⟨rfl, o2⟩
        exact ⟨_, rfl, hK.out _ _ rfl (o2 ▸ Only.refl _ _)⟩
      refine RgSteps.cons (fun a w hS hsz hout hd K hK => ?_) ?_
      · rw [if_pos (by rfl)]
        have e3 : a.eval (.tmp 3) = .pointer (some ⟨Z, 0, none⟩) := hout 3 (by kernel_rfl)
        refine rg_value (v := .pointer (some ⟨Z, 0, none⟩)) ?_ (hK.out _ _ rfl (Only.refl _ _))
        clear hd hout hK hsz
        have ec : ∀ v, a.eval (.const v) = v := fun _ => rfl
        generalize a.eval = ev at *
        go_simp
        (try first | with_reducible rfl | go_num | decide)
      refine RgSteps.cons (fun a w hS hsz hout hd K hK => ?_) ?_
      · rw [if_pos (by rfl)]
        have e41 : a.eval (.tmp 41) = .pointer (some ⟨Z, 0, none⟩) := hd 7 (by kernel_rfl)
        exact rg_load 5 (.tmp 41) rfl ⟨Z, 0, none⟩ (.int .u8 x.kind) e41 (lc_u8 ((BX.out.only hS (by simp)).cell (i := 0) rfl)) (hK.out _ _ rfl (Only.refl _ _))
      refine RgSteps.cons (fun a w hS hsz hout hd K hK => ?_) ?_
      · rw [if_pos (by rfl)]
        have e42 : a.eval (.tmp 42) = .int .u8 x.kind := hd 8 (by kernel_rfl)
        have q : (x.kind == 0) = b0 := Q0.out
        refine rg_value (v := .bool b0) ?_ (hK.out _ _ rfl (Only.refl _ _))
        clear hd hout hK hsz
        have ec : ∀ v, a.eval (.const v) = v := fun _ => rfl
        generalize a.eval = ev at *
        go_simp
        (try first | with_reducible rfl | go_num | decide)
      refine RgSteps.cons (fun a w hS hsz hout hd K hK => ?_) ?_
      · rw [if_pos (by rfl)]
        have e43 : a.eval (.tmp 43) = .bool b0 := hd 9 (by kernel_rfl)
        refine rg_value (v := .bool b0) ?_ (hK.out _ _ rfl (Only.refl _ _))
        clear hd hout hK hsz
        have ec : ∀ v, a.eval (.const v) = v := fun _ => rfl
        generalize a.eval = ev at *
        go_simp
        (try first | with_reducible rfl | go_num | decide)
      refine RgSteps.cons (fun a w hS hsz hout hd K hK => ?_) ?_
      · have e44 : a.eval (.tmp 44) = .bool b0 := hd 10 (by kernel_rfl)
        have e3 : a.eval (.tmp 3) = .pointer (some ⟨Z, 0, none⟩) := hout 3 (by kernel_rfl)
        cases b0
        · rw [if_pos (by rw [Region.wanted]; simp only []; rw [yielded_at (j := 10) (t := 44) (b := false) rfl e44]; decide)]
          refine rg_value (v := .pointer (some ⟨Z, 0, none⟩)) ?_ (hK.out _ _ rfl (Only.refl _ _))
          clear hd hout hK hsz
          (try simp only [cond_false] at *)
          have ec : ∀ v, a.eval (.const v) = v := fun _ => rfl
          generalize a.eval = ev at *
          go_simp
          (try with_reducible rfl)
        · rw [if_neg (by rw [Region.wanted]; simp only []; rw [yielded_at (j := 10) (t := 44) (b := true) rfl e44]; decide)]
          exact hK.out _ _ rfl (Only.refl _ _)
      refine RgSteps.cons (fun a w hS hsz hout hd K hK => ?_) ?_
      · have e44 : a.eval (.tmp 44) = .bool b0 := hd 10 (by kernel_rfl)
        have e45 : a.eval (.tmp 45) = (bif b0 then undef else .pointer (some ⟨Z, 0, none⟩)) := hd 11 (by kernel_rfl)
        cases b0
        · rw [if_pos (by rw [Region.wanted]; simp only []; rw [yielded_at (j := 10) (t := 44) (b := false) rfl e44]; decide)]
          exact rg_load 5 (.tmp 45) rfl ⟨Z, 0, none⟩ (.int .u8 x.kind) e45 (lc_u8 ((BX.out.only hS (by simp)).cell (i := 0) rfl)) (hK.out _ _ rfl (Only.refl _ _))
        · rw [if_neg (by rw [Region.wanted]; simp only []; rw [yielded_at (j := 10) (t := 44) (b := true) rfl e44]; decide)]
          exact hK.out _ _ rfl (Only.refl _ _)
      refine RgSteps.cons (fun a w hS hsz hout hd K hK => ?_) ?_
      · have e44 : a.eval (.tmp 44) = .bool b0 := hd 10 (by kernel_rfl)
        have e46 : a.eval (.tmp 46) = (bif b0 then undef else .int .u8 x.kind) := hd 12 (by kernel_rfl)
        cases b0
        · rw [if_pos (by rw [Region.wanted]; simp only []; rw [yielded_at (j := 10) (t := 44) (b := false) rfl e44]; decide)]
          have q : (x.kind == 1) = b1 := Q1.out
          refine rg_value (v := .bool b1) ?_ (hK.out _ _ rfl (Only.refl _ _))
          clear hd hout hK hsz
          (try simp only [cond_false] at *)
          have ec : ∀ v, a.eval (.const v) = v := fun _ => rfl
          generalize a.eval = ev at *
          go_simp
          (try with_reducible rfl)
        · rw [if_neg (by rw [Region.wanted]; simp only []; rw [yielded_at (j := 10) (t := 44) (b := true) rfl e44]; decide)]
          exact hK.out _ _ rfl (Only.refl _ _)
      refine RgSteps.cons (fun a w hS hsz hout hd K hK => ?_) ?_
      · rw [if_pos (by rfl)]
        have e44 : a.eval (.tmp 44) = .bool b0 := hd 10 (by kernel_rfl)
        have e47 : a.eval (.tmp 47) = (bif b0 then undef else .bool b1) := hd 13 (by kernel_rfl)
        refine rg_value (v := .bool (b0 || b1)) ?_ (hK.out _ _ rfl (Only.refl _ _))
        clear hd hout hK hsz
        have ec : ∀ v, a.eval (.const v) = v := fun _ => rfl
        generalize a.eval = ev at *
        cases b0
        · simp only [cond_false] at e47
          go_simp
          (try with_reducible rfl)
        · simp only [cond_true] at e47
          go_simp
          (try with_reducible rfl)
      refine RgSteps.cons (fun a w hS hsz hout hd K hK => ?_) ?_
      · rw [if_pos (by rfl)]
        have e3 : a.eval (.tmp 3) = .pointer (some ⟨Z, 0, none⟩) := hout 3 (by kernel_rfl)
        refine rg_value (v := .pointer (some ⟨Z, 2, none⟩)) ?_ (hK.out _ _ rfl (Only.refl _ _))
        clear hd hout hK hsz
        have ec : ∀ v, a.eval (.const v) = v := fun _ => rfl
        generalize a.eval = ev at *
        go_simp
        (try first | with_reducible rfl | go_num | decide)
      refine RgSteps.cons (fun a w hS hsz hout hd K hK => ?_) ?_
      · rw [if_pos (by rfl)]
        have e49 : a.eval (.tmp 49) = .pointer (some ⟨Z, 2, none⟩) := hd 15 (by kernel_rfl)
        exact rg_load 5 (.tmp 49) rfl ⟨Z, 2, none⟩ (.int .u8 x.chroma) e49 (lc_u8 ((BX.out.only hS (by simp)).cell (i := 2) rfl)) (hK.out _ _ rfl (Only.refl _ _))
      refine RgSteps.cons (fun a w hS hsz hout hd K hK => ?_) ?_
      · rw [if_pos (by rfl)]
        have e50 : a.eval (.tmp 50) = .int .u8 x.chroma := hd 16 (by kernel_rfl)
        exact rg_row 61 1 _ rfl #[(0, .int .u8 x.chroma)] (by simp [e50, eval_const]) _ _ (run_u81 _ w) (hK.out _ _ ⟨w.heap.size, rfl, heap_alloc_new w _⟩ ((Only.refl [] w).alloc _))
      refine RgSteps.cons (fun a w hS hsz hout hd K hK => ?_) ?_
      · rw [if_pos (by rfl)]
        have e48 : a.eval (.tmp 48) = .bool (b0 || b1) := hd 14 (by kernel_rfl)
        obtain ⟨g51, e51, h51⟩ : ∃ g, a.eval (.tmp 51) = .slice (some ⟨g, 0, none⟩) 1 1 ∧ w.heap[g]? = some (.cells #[.int .u8 x.chroma] 5 (0, 0)) := hd 17 (by kernel_rfl)
        refine rg_call 29 _ _ #[.bool (b0 || b1), .slice (some ⟨g51, 0, none⟩) 1 1, .int .u8 0, .int .u8 3] rfl (by kernel_rfl) (by simp [e48, e51, eval_const]) ((EQ2.out ▸ pfixedU_any (b0 || b1) (.slice (some ⟨g51, 0, none⟩) 1 1) [x.chroma] 0 3 w (holdsU_row h51) (by simp [P16.l, S4.l])).mono ?_)
        rintro e w2 ⟨rfl, o2⟩
        exact ⟨_, rfl, hK.out _ _ rfl (o2 ▸ Only.refl _ _)⟩
      refine RgSteps.cons (fun a w hS hsz hout hd K hK => ?_) ?_
      · rw [if_pos (by rfl)]
        have e3 : a.eval (.tmp 3) = .pointer (some ⟨Z, 0, none⟩) := hout 3 (by kernel_rfl)
        refine rg_value (v := .pointer (some ⟨Z, 0, none⟩)) ?_ (hK.out _ _ rfl (Only.refl _ _))
        clear hd hout hK hsz
        have ec : ∀ v, a.eval (.const v) = v := fun _ => rfl
        generalize a.eval = ev at *
        go_simp
        (try first | with_reducible rfl | go_num | decide)
      refine RgSteps.cons (fun a w hS hsz hout hd K hK => ?_) ?_
      · rw [if_pos (by rfl)]
        have e53 : a.eval (.tmp 53) = .pointer (some ⟨Z, 0, none⟩) := hd 19 (by kernel_rfl)
        exact rg_load 5 (.tmp 53) rfl ⟨Z, 0, none⟩ (.int .u8 x.kind) e53 (lc_u8 ((BX.out.only hS (by simp)).cell (i := 0) rfl)) (hK.out _ _ rfl (Only.refl _ _))
      refine RgSteps.cons (fun a w hS hsz hout hd K hK => ?_) ?_
      · rw [if_pos (by rfl)]
        have e54 : a.eval (.tmp 54) = .int .u8 x.kind := hd 20 (by kernel_rfl)
        have q : (x.kind == 0) = b0 := Q0.out
        refine rg_value (v := .bool b0) ?_ (hK.out _ _ rfl (Only.refl _ _))
        clear hd hout hK hsz
        have ec : ∀ v, a.eval (.const v) = v := fun _ => rfl
        generalize a.eval = ev at *
        go_simp
        (try first | with_reducible rfl | go_num | decide)
      refine RgSteps.cons (fun a w hS hsz hout hd K hK => ?_) ?_
      · rw [if_pos (by rfl)]
        have e3 : a.eval (.tmp 3) = .pointer (some ⟨Z, 0, none⟩) := hout 3 (by kernel_rfl)
        refine rg_value (v := .pointer (some ⟨Z, 3, none⟩)) ?_ (hK.out _ _ rfl (Only.refl _ _))
        clear hd hout hK hsz
        have ec : ∀ v, a.eval (.const v) = v := fun _ => rfl
        generalize a.eval = ev at *
        go_simp
        (try first | with_reducible rfl | go_num | decide)
      refine RgSteps.cons (fun a w hS hsz hout hd K hK => ?_) ?_
      · rw [if_pos (by rfl)]
        have e56 : a.eval (.tmp 56) = .pointer (some ⟨Z, 3, none⟩) := hd 22 (by kernel_rfl)
        refine rg_value (v := .slice (some ⟨Z, 3, none⟩) 16 16) ?_ (hK.out _ _ rfl (Only.refl _ _))
        exact run_arr16 a w _ e56 rfl
      refine RgSteps.cons (fun a w hS hsz hout hd K hK => ?_) ?_
      · rw [if_pos (by rfl)]
        have e55 : a.eval (.tmp 55) = .bool b0 := hd 21 (by kernel_rfl)
        have e57 : a.eval (.tmp 57) = .slice (some ⟨Z, 3, none⟩) 16 16 := hd 23 (by kernel_rfl)
        refine rg_call 29 _ _ #[.bool b0, .slice (some ⟨Z, 3, none⟩) 16 16, .int .u8 0, .int .u8 8] rfl (by kernel_rfl) (by simp [e55, e57, eval_const]) ((EQ3.out ▸ pfixedU_any b0 (.slice (some ⟨Z, 3, none⟩) 16 16) x.pr.l 0 8 w (holds_pr (BX.out.only hS (by simp))) (by simp [P16.l, S4.l])).mono ?_)
        rintro e w2 ⟨rfl, o2⟩
        exact ⟨_, rfl, hK.out _ _ rfl (o2 ▸ Only.refl _ _)⟩
      refine RgSteps.cons (fun a w hS hsz hout hd K hK => ?_) ?_
      · rw [if_pos (by rfl)]
        have e3 : a.eval (.tmp 3) = .pointer (some ⟨Z, 0, none⟩) := hout 3 (by kernel_rfl)
        refine rg_value (v := .pointer (some ⟨Z, 0, none⟩)) ?_ (hK.out _ _ rfl (Only.refl _ _))
        clear hd hout hK hsz
        have ec : ∀ v, a.eval (.const v) = v := fun _ => rfl
        generalize a.eval = ev at *
        go_simp
        (try first | with_reducible rfl | go_num | decide)
      refine RgSteps.cons (fun a w hS hsz hout hd K hK => ?_) ?_
      · rw [if_pos (by rfl)]
        have e59 : a.eval (.tmp 59) = .pointer (some ⟨Z, 0, none⟩) := hd 25 (by kernel_rfl)
        exact rg_load 5 (.tmp 59) rfl ⟨Z, 0, none⟩ (.int .u8 x.kind) e59 (lc_u8 ((BX.out.only hS (by simp)).cell (i := 0) rfl)) (hK.out _ _ rfl (Only.refl _ _))
      refine RgSteps.cons (fun a w hS hsz hout hd K hK => ?_) ?_
      · rw [if_pos (by rfl)]
        have e60 : a.eval (.tmp 60) = .int .u8 x.kind := hd 26 (by kernel_rfl)
        have q : (x.kind == 6) = b6 := Q6.out
        refine rg_value (v := .bool b6) ?_ (hK.out _ _ rfl (Only.refl _ _))
        clear hd hout hK hsz
        have ec : ∀ v, a.eval (.const v) = v := fun _ => rfl
        generalize a.eval = ev at *
        go_simp
        (try first | with_reducible rfl | go_num | decide)
      refine RgSteps.cons (fun a w hS hsz hout hd K hK => ?_) ?_
      · rw [if_pos (by rfl)]
        have e3 : a.eval (.tmp 3) = .pointer (some ⟨Z, 0, none⟩) := hout 3 (by kernel_rfl)
        refine rg_value (v := .pointer (some ⟨Z, 19, none⟩)) ?_ (hK.out _ _ rfl (Only.refl _ _))
        clear hd hout hK hsz
        have ec : ∀ v, a.eval (.const v) = v := fun _ => rfl
        generalize a.eval = ev at *
        go_simp
        (try first | with_reducible rfl | go_num | decide)
      refine RgSteps.cons (fun a w hS hsz hout hd K hK => ?_) ?_
      · rw [if_pos (by rfl)]
        have e62 : a.eval (.tmp 62) = .pointer (some ⟨Z, 19, none⟩) := hd 28 (by kernel_rfl)
        refine rg_value (v := .slice (some ⟨Z, 19, none⟩) 4 4) ?_ (hK.out _ _ rfl (Only.refl _ _))
        exact run_arr4 a w _ e62 rfl
      refine RgSteps.cons (fun a w hS hsz hout hd K hK => ?_) ?_
      · rw [if_pos (by rfl)]
        have e61 : a.eval (.tmp 61) = .bool b6 := hd 27 (by kernel_rfl)
        have e63 : a.eval (.tmp 63) = .slice (some ⟨Z, 19, none⟩) 4 4 := hd 29 (by kernel_rfl)
        refine rg_call 29 _ _ #[.bool b6, .slice (some ⟨Z, 19, none⟩) 4 4, .int .u8 0, .int .u8 3] rfl (by kernel_rfl) (by simp [e61, e63, eval_const]) ((EQ4.out ▸ pfixedU_any b6 (.slice (some ⟨Z, 19, none⟩) 4 4) x.sb.l 0 3 w (holds_sb (BX.out.only hS (by simp))) (by simp [P16.l, S4.l])).mono ?_)
        rintro e w2 ⟨rfl, o2⟩
        exact ⟨_, rfl, hK.out _ _ rfl (o2 ▸ Only.refl _ _)⟩
      refine RgSteps.cons (fun a w hS hsz hout hd K hK => ?_) ?_
      · rw [if_pos (by rfl)]
        have e3 : a.eval (.tmp 3) = .pointer (some ⟨Z, 0, none⟩) := hout 3 (by kernel_rfl)
        refine rg_value (v := .pointer (some ⟨Z, 23, none⟩)) ?_ (hK.out _ _ rfl (Only.refl _ _))
        clear hd hout hK hsz
        have ec : ∀ v, a.eval (.const v) = v := fun _ => rfl
        generalize a.eval = ev at *
        go_simp
        (try first | with_reducible rfl | go_num | decide)
      refine RgSteps.cons (fun a w hS hsz hout hd K hK => ?_) ?_
      · rw [if_pos (by rfl)]
        have e65 : a.eval (.tmp 65) = .pointer (some ⟨Z, 23, none⟩) := hd 31 (by kernel_rfl)
        exact rg_load 24 (.tmp 65) rfl ⟨Z, 23, none⟩ (rv) e65 (lc_is ((BX.out.only hS (by simp)).cell (i := 23) rfl)) (hK.out _ _ rfl (Only.refl _ _))
      refine RgSteps.cons (fun a w hS hsz hout hd K hK => ?_) ?_
      · rw [if_pos (by rfl)]
        have e3 : a.eval (.tmp 3) = .pointer (some ⟨Z, 0, none⟩) := hout 3 (by kernel_rfl)
        refine rg_value (v := .pointer (some ⟨Z, 0, none⟩)) ?_ (hK.out _ _ rfl (Only.refl _ _))
        clear hd hout hK hsz
        have ec : ∀ v, a.eval (.const v) = v := fun _ => rfl
        generalize a.eval = ev at *
        go_simp
        (try first | with_reducible rfl | go_num | decide)
      refine RgSteps.cons (fun a w hS hsz hout hd K hK => ?_) ?_
      · rw [if_pos (by rfl)]
        have e67 : a.eval (.tmp 67) = .pointer (some ⟨Z, 0, none⟩) := hd 33 (by kernel_rfl)
        exact rg_load 5 (.tmp 67) rfl ⟨Z, 0, none⟩ (.int .u8 x.kind) e67 (lc_u8 ((BX.out.only hS (by simp)).cell (i := 0) rfl)) (hK.out _ _ rfl (Only.refl _ _))
      refine RgSteps.cons (fun a w hS hsz hout hd K hK => ?_) ?_
      · rw [if_pos (by rfl)]
        have e68 : a.eval (.tmp 68) = .int .u8 x.kind := hd 34 (by kernel_rfl)
        refine rg_call 31 _ _ #[.int .u8 x.kind] rfl (by kernel_rfl) (by simp [e68, eval_const]) ((pparts_any x.kind w (V.out.only0 hS) KB.out.1 KB.out.2).mono ?_)
        rintro e w2 ⟨rfl, o2⟩
        exact ⟨_, rfl, hK.out _ _ rfl (o2 ▸ Only.refl _ _)⟩
      refine RgSteps.cons (fun a w hS hsz hout hd K hK => ?_) ?_
      · rw [if_pos (by rfl)]
        have e2 : a.eval (.tmp 2) = .int .i64 0 := hout 2 (by kernel_rfl)
        refine rg_value (v := .int .i64 0) ?_ (hK.out _ _ rfl (Only.refl _ _))
        clear hd hout hK hsz
        have ec : ∀ v, a.eval (.const v) = v := fun _ => rfl
        generalize a.eval = ev at *
        go_simp
        (try first | with_reducible rfl | go_num | decide)
      refine RgSteps.cons (fun a w hS hsz hout hd K hK => ?_) ?_
      · rw [if_pos (by rfl)]
        have e70 : a.eval (.tmp 70) = .int .i64 0 := hd 36 (by kernel_rfl)
        skip
        refine rg_value (v := .int .i64 (0 - 1)) ?_ (hK.out _ _ rfl (Only.refl _ _))
        clear hd hout hK hsz
        have ec : ∀ v, a.eval (.const v) = v := fun _ => rfl
        generalize a.eval = ev at *
        go_simp
        (try first | with_reducible rfl | go_num | decide)
      refine RgSteps.cons (fun a w hS hsz hout hd K hK => ?_) ?_
      · rw [if_pos (by rfl)]
        have e66 : a.eval (.tmp 66) = rv := hd 32 (by kernel_rfl)
        have e69 : a.eval (.tmp 69) = .int .i64 (partsI x.kind) := hd 35 (by kernel_rfl)
        have e71 : a.eval (.tmp 71) = .int .i64 (0 - 1) := hd 37 (by kernel_rfl)
        refine rg_call 30 _ _ #[rv, .int .i64 (partsI x.kind), .int .i64 0, .int .i64 (0 - 1)] rfl (by kernel_rfl) (by simp [e66, e69, e71, eval_const]) ((EQ5.out ▸ plist_any rv x.refs (partsI x.kind) 0 (0 - 1) w (HM.out.r.only0 hS) (by have := LF.out.r; omega)).mono ?_)
        rintro e w2 ⟨rfl, o2⟩
        exact ⟨_, rfl, hK.out _ _ rfl (o2 ▸ Only.refl _ _)⟩
      refine RgSteps.cons (fun a w hS hsz hout hd K hK => ?_) ?_
      · rw [if_pos (by rfl)]
        have e3 : a.eval (.tmp 3) = .pointer (some ⟨Z, 0, none⟩) := hout 3 (by kernel_rfl)
        exact rg_load 28 (.tmp 3) rfl ⟨Z, 0, none⟩ (mV x rv vv bv) e3 ((BX.out.only hS (by simp)).mb) (hK.out _ _ rfl (Only.refl _ _))
      refine RgSteps.cons (fun a w hS hsz hout hd K hK => ?_) ?_
      · rw [if_pos (by rfl)]
        have e73 : a.eval (.tmp 73) = mV x rv vv bv := hd 39 (by kernel_rfl)
        refine rg_call 32 _ _ #[mV x rv vv bv] rfl (by kernel_rfl) (by simp [e73, eval_const]) ((EQ6.out ▸ pmvds_any x rv vv bv w (V.out.only0 hS) XI.out (HM.out.v.only0 hS) (by have := LF.out.v; omega)).mono ?_)
        rintro e w2 ⟨rfl, o2⟩
        exact ⟨_, rfl, hK.out _ _ rfl o2⟩
      refine RgSteps.cons (fun a w hS hsz hout hd K hK => ?_) ?_
      · rw [if_pos (by rfl)]
        have e3 : a.eval (.tmp 3) = .pointer (some ⟨Z, 0, none⟩) := hout 3 (by kernel_rfl)
        exact rg_load 28 (.tmp 3) rfl ⟨Z, 0, none⟩ (mV x rv vv bv) e3 ((BX.out.only hS (by simp)).mb) (hK.out _ _ rfl (Only.refl _ _))
      refine RgSteps.cons (fun a w hS hsz hout hd K hK => ?_) ?_
      · rw [if_pos (by rfl)]
        have e75 : a.eval (.tmp 75) = mV x rv vv bv := hd 41 (by kernel_rfl)
        refine rg_call 33 _ _ #[mV x rv vv bv] rfl (by kernel_rfl) (by simp [e75, eval_const]) ((EQ7.out ▸ pcbp_any x rv vv bv w XI.out).mono ?_)
        rintro e w2 ⟨rfl, o2⟩
        exact ⟨_, rfl, hK.out _ _ rfl o2⟩
      refine RgSteps.cons (fun a w hS hsz hout hd K hK => ?_) ?_
      · rw [if_pos (by rfl)]
        have e3 : a.eval (.tmp 3) = .pointer (some ⟨Z, 0, none⟩) := hout 3 (by kernel_rfl)
        exact rg_load 28 (.tmp 3) rfl ⟨Z, 0, none⟩ (mV x rv vv bv) e3 ((BX.out.only hS (by simp)).mb) (hK.out _ _ rfl (Only.refl _ _))
      refine RgSteps.cons (fun a w hS hsz hout hd K hK => ?_) ?_
      · rw [if_pos (by rfl)]
        have e77 : a.eval (.tmp 77) = mV x rv vv bv := hd 43 (by kernel_rfl)
        refine rg_call 35 _ _ #[mV x rv vv bv] rfl (by kernel_rfl) (by simp [e77, eval_const]) ((phasqp_any x rv vv bv w).mono ?_)
        rintro e w2 ⟨rfl, o2⟩
        exact ⟨_, rfl, hK.out _ _ rfl o2⟩
      refine RgSteps.cons (fun a w hS hsz hout hd K hK => ?_) ?_
      · rw [if_pos (by rfl)]
        have e3 : a.eval (.tmp 3) = .pointer (some ⟨Z, 0, none⟩) := hout 3 (by kernel_rfl)
        refine rg_value (v := .pointer (some ⟨Z, 26, none⟩)) ?_ (hK.out _ _ rfl (Only.refl _ _))
        clear hd hout hK hsz
        have ec : ∀ v, a.eval (.const v) = v := fun _ => rfl
        generalize a.eval = ev at *
        go_simp
        (try first | with_reducible rfl | go_num | decide)
      refine RgSteps.cons (fun a w hS hsz hout hd K hK => ?_) ?_
      · rw [if_pos (by rfl)]
        have e79 : a.eval (.tmp 79) = .pointer (some ⟨Z, 26, none⟩) := hd 45 (by kernel_rfl)
        exact rg_load 3 (.tmp 79) rfl ⟨Z, 26, none⟩ (.int .i64 x.qp) e79 (lc_i64 ((BX.out.only hS (by simp)).cell (i := 26) rfl)) (hK.out _ _ rfl (Only.refl _ _))
      refine RgSteps.cons (fun a w hS hsz hout hd K hK => ?_) ?_
      · rw [if_pos (by rfl)]
        have e80 : a.eval (.tmp 80) = .int .i64 x.qp := hd 46 (by kernel_rfl)
        exact rg_row 24 1 _ rfl #[(0, .int .i64 x.qp)] (by simp [e80, eval_const]) _ _ (run_i1 _ w) (hK.out _ _ ⟨w.heap.size, rfl, heap_alloc_new w _⟩ ((Only.refl [] w).alloc _))
      refine RgSteps.cons (fun a w hS hsz hout hd K hK => ?_) ?_
      · rw [if_pos (by rfl)]
        have e78 : a.eval (.tmp 78) = .bool (hasQ x) := hd 44 (by kernel_rfl)
        obtain ⟨g81, e81, h81⟩ : ∃ g, a.eval (.tmp 81) = .slice (some ⟨g, 0, none⟩) 1 1 ∧ w.heap[g]? = some (.cells #[.int .i64 x.qp] 3 (0, 0)) := hd 47 (by kernel_rfl)
        refine rg_call 34 _ _ #[.bool (hasQ x), .slice (some ⟨g81, 0, none⟩) 1 1, .int .i64 (-26), .int .i64 25] rfl (by kernel_rfl) (by simp [e78, e81, eval_const]) ((EQ8.out ▸ pfixedI_any (hasQ x) (.slice (some ⟨g81, 0, none⟩) 1 1) [x.qp] (-26) 25 w (holdsI_row1 h81) (by simp)).mono ?_)
        rintro e w2 ⟨rfl, o2⟩
        exact ⟨_, rfl, hK.out _ _ rfl (o2 ▸ Only.refl _ _)⟩
      refine RgSteps.cons (fun a w hS hsz hout hd K hK => ?_) ?_
      · rw [if_pos (by rfl)]
        have e3 : a.eval (.tmp 3) = .pointer (some ⟨Z, 0, none⟩) := hout 3 (by kernel_rfl)
        exact rg_load 28 (.tmp 3) rfl ⟨Z, 0, none⟩ (mV x rv vv bv) e3 ((BX.out.only hS (by simp)).mb) (hK.out _ _ rfl (Only.refl _ _))
      refine RgSteps.cons (fun a w hS hsz hout hd K hK => ?_) ?_
      · rw [if_pos (by rfl)]
        have e83 : a.eval (.tmp 83) = mV x rv vv bv := hd 49 (by kernel_rfl)
        refine rg_call 36 _ _ #[mV x rv vv bv] rfl (by kernel_rfl) (by simp [e83, eval_const]) ((EQ9.out ▸ pblks_any x rv vv bv w (V.out.only0 hS) XI.out (HM.out.b.only0 hS) (by have := LF.out.b; omega) (fun l hl => by have := LF.out.i l hl; omega)).mono ?_)
        rintro e w2 ⟨rfl, o2⟩
        exact ⟨_, rfl, hK.out _ _ rfl o2⟩
      refine RgSteps.cons (fun a w hS hsz hout hd K hK => ?_) ?_
      · rw [if_pos (by rfl)]
        have e3 : a.eval (.tmp 3) = .pointer (some ⟨Z, 0, none⟩) := hout 3 (by kernel_rfl)
        exact rg_load 28 (.tmp 3) rfl ⟨Z, 0, none⟩ (mV x rv vv bv) e3 ((BX.out.only hS (by simp)).mb) (hK.out _ _ rfl (Only.refl _ _))
      refine RgSteps.cons (fun a w hS hsz hout hd K hK => ?_) ?_
      · rw [if_pos (by rfl)]
        have e85 : a.eval (.tmp 85) = mV x rv vv bv := hd 51 (by kernel_rfl)
        refine rg_call 37 _ _ #[mV x rv vv bv] rfl (by kernel_rfl) (by simp [e85, eval_const]) ((EQ10.out ▸ ppcm_any x rv vv bv w).mono ?_)
        rintro e w2 ⟨rfl, o2⟩
        exact ⟨_, rfl, hK.out _ _ rfl o2⟩
      refine RgSteps.cons (fun a w hS hsz hout hd K hK => ?_) ?_
      · rw [if_pos (by rfl)]
        have e40 : a.eval (.tmp 40) = .int .i64 e1 := hd 6 (by kernel_rfl)
        have e52 : a.eval (.tmp 52) = .int .i64 e2 := hd 18 (by kernel_rfl)
        have e58 : a.eval (.tmp 58) = .int .i64 e3 := hd 24 (by kernel_rfl)
        have e64 : a.eval (.tmp 64) = .int .i64 e4 := hd 30 (by kernel_rfl)
        have e72 : a.eval (.tmp 72) = .int .i64 e5 := hd 38 (by kernel_rfl)
        have e74 : a.eval (.tmp 74) = .int .i64 e6 := hd 40 (by kernel_rfl)
        have e76 : a.eval (.tmp 76) = .int .i64 e7 := hd 42 (by kernel_rfl)
        have e82 : a.eval (.tmp 82) = .int .i64 e8 := hd 48 (by kernel_rfl)
        have e84 : a.eval (.tmp 84) = .int .i64 e9 := hd 50 (by kernel_rfl)
        have e86 : a.eval (.tmp 86) = .int .i64 e10 := hd 52 (by kernel_rfl)
        exact rg_row 68 10 _ rfl #[(0, .int .i64 e1), (1, .int .i64 e2), (2, .int .i64 e3), (3, .int .i64 e4), (4, .int .i64 e5), (5, .int .i64 e6), (6, .int .i64 e7), (7, .int .i64 e8), (8, .int .i64 e9), (9, .int .i64 e10)] (by simp [e40, e52, e58, e64, e72, e74, e76, e82, e84, e86, eval_const]) _ _ (run_e10 _ _ _ _ _ _ _ _ _ _ w) (hK.out _ _ ⟨w.heap.size, rfl, heap_alloc_new w _⟩ ((Only.refl [] w).alloc _))
      refine RgSteps.cons (fun a w hS hsz hout hd K hK => ?_) ?_
      · rw [if_pos (by rfl)]
        obtain ⟨g87, e87, h87⟩ : ∃ g, a.eval (.tmp 87) = .slice (some ⟨g, 0, none⟩) 10 10 ∧ w.heap[g]? = some (.cells #[.int .i64 e1, .int .i64 e2, .int .i64 e3, .int .i64 e4, .int .i64 e5, .int .i64 e6, .int .i64 e7, .int .i64 e8, .int .i64 e9, .int .i64 e10] 30 (0, 0)) := hd 53 (by kernel_rfl)
        refine rg_call 28 _ _ #[.slice (some ⟨g87, 0, none⟩) 10 10] rfl (by kernel_rfl) (by simp [e87, eval_const]) ((RS.out ▸ por_any (.slice (some ⟨g87, 0, none⟩) 10 10) [e1, e2, e3, e4, e5, e6, e7, e8, e9, e10] w (holds_cells [e1, e2, e3, e4, e5, e6, e7, e8, e9, e10] rfl h87 (by simp)) (by simp)).mono ?_)
        rintro e w2 ⟨rfl, o2⟩
        exact ⟨_, rfl, hK.out _ _ rfl (o2 ▸ Only.refl _ _)⟩
      refine RgSteps.cons (fun a w hS hsz hout hd K hK => ?_) ?_
      · rw [if_pos (by rfl)]
        have e88 : a.eval (.tmp 88) = .int .i64 res := hd 54 (by kernel_rfl)
        refine rg_value (v := .int .i64 res) ?_ (hK.out _ _ rfl (Only.refl _ _))
        clear hd hout hK hsz
        have ec : ∀ v, a.eval (.const v) = v := fun _ => rfl
        generalize a.eval = ev at *
        go_simp
        (try first | with_reducible rfl | go_num | decide)
      exact RgSteps.nil _
    · intro a w hS hsz hdf hout hall
      have e6' : a.eval (.tmp 6) = .int .i64 res := hall 55 rfl
      have OF := hid hS
      go_wp2_with fail
      refine bodyPost_ret (results_tmp rfl a.tmps _ _) hdf ?_
      exact ⟨congrArg Ending.returned e6', oW.out.trans OF.out⟩
end Go.Proofs.YtpmmnjeomdjakaaDoor

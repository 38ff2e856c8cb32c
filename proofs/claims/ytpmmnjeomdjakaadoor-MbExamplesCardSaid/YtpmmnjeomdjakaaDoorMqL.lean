/- The program's Equal of macroblocks that differ, first field by first field, and of equal ones. -/
import Derived.Test.YtpmmnjeomdjakaaDoorMmb4
namespace Go.Proofs.YtpmmnjeomdjakaaDoor
open Go.RowKit
set_option linter.unusedVariables false
set_option linter.unusedSimpArgs false

set_option maxRecDepth 100000 in
set_option maxHeartbeats 8000000 in
theorem peq_no_pcm (x y : MV) (ra va ba rb vb bb : Value) (w : World) (hx : MAt w x ra va ba) (hy : MAt w y rb vb bb) (lx : MLen x) (ly : MLen y) (e0 : x.kind = y.kind) (e1 : x.mode = y.mode) (e2 : x.chroma = y.chroma) (e3 : x.pr = y.pr) (e4 : x.sb = y.sb) (e5 : x.cbp = y.cbp) (e6 : x.qp = y.qp) (ne : ¬ x.pcm = y.pcm) :
    Calls Tryd.prog 15 #[mV x ra va ba, mV y rb vb bb] w fun e w' => e = .returned (.bool false) ∧ Only [] w w' := by
  obtain ⟨kind, mode, chroma, pr, sb, refs, mvds, cbp, qp, blocks, pcm⟩ := x
  obtain ⟨kind', mode', chroma', pr', sb', refs', mvds', cbp', qp', blocks', pcm'⟩ := y
  dsimp only at *
  subst e0 e1 e2 e3 e4 e5 e6
  obtain ⟨W1, hW1⟩ : ∃ W, W = w.alloc (.cells (mC ⟨kind, mode, chroma, pr, sb, refs, mvds, cbp, qp, blocks, pcm⟩ ra va ba).toArray 28) := ⟨_, rfl⟩
  obtain ⟨W2, hW2⟩ : ∃ W, W = W1.alloc (.cells (mC ⟨kind, mode, chroma, pr, sb, refs', mvds', cbp, qp, blocks', pcm'⟩ rb vb bb).toArray 28) := ⟨_, rfl⟩
  obtain ⟨X, hX⟩ : ∃ X, X = w.heap.size := ⟨_, rfl⟩
  have hX1 : X + 1 = W1.heap.size := by rw [hW1, hX]; exact (World.size_alloc _ _).symm
  have o1 : Only [] w W1 := hW1 ▸ ((Only.refl [] w).alloc _)
  have o2 : Only [] W1 W2 := hW2 ▸ ((Only.refl [] W1).alloc _)
  have BA : Blk W2 X 28 (mC ⟨kind, mode, chroma, pr, sb, refs, mvds, cbp, qp, blocks, pcm⟩ ra va ba).toArray := by
    have := Blk.new w 28 (mC ⟨kind, mode, chroma, pr, sb, refs, mvds, cbp, qp, blocks, pcm⟩ ra va ba).toArray
    rw [← hW1, ← hX] at this
    exact this.only o2 (by simp)
  have BB : Blk W2 (X + 1) 28 (mC ⟨kind, mode, chroma, pr, sb, refs', mvds', cbp, qp, blocks', pcm'⟩ rb vb bb).toArray := by
    have := Blk.new W1 28 (mC ⟨kind, mode, chroma, pr, sb, refs', mvds', cbp, qp, blocks', pcm'⟩ rb vb bb).toArray
    rwa [← hW2, ← hX1] at this
  have BA0 := hid BA
  have BB0 := hid BB
  clear BA BB
  have HW1 := hid hW1
  have HW2 := hid hW2
  have HX := hid hX
  have HX1 := hid hX1
  have OW := hid (o1.trans o2)
  have E16 := hid (show _ from by have := eql_p16 pr pr W2; rw [decide_eq_true rfl] at this; exact this)
  have E4 := hid (show _ from by have := eql_s4 sb sb W2; rw [decide_eq_true rfl] at this; exact this)
  have NE := hid ne
  clear hX hX1 hW1 hW2 o1 o2 hx hy lx ly ne
  unfold mV
  go_enter Tryd.func15, Tryd.ntmps15
  go_upto_region 1 with (first
    | (refine wp_box rfl 28 (.tmp 0) rfl (mC ⟨kind, mode, chroma, pr, sb, refs, mvds, cbp, qp, blocks, pcm⟩ ra va ba).toArray rfl HW1.out HX.out ?_; simp only [Act.put, List.setIfInBounds_toArray, List.set_cons_zero, List.set_cons_succ])
    | (refine wp_box rfl 28 (.tmp 1) rfl (mC ⟨kind, mode, chroma, pr, sb, refs', mvds', cbp, qp, blocks', pcm'⟩ rb vb bb).toArray rfl HW2.out HX1.out ?_; simp only [Act.put, List.setIfInBounds_toArray, List.set_cons_zero, List.set_cons_succ]))
  simp only [List.append_eq, List.cons_append, List.nil_append]
  go_wp2_with (first
    | (refine wp_bin_eq (by kernel_rfl) .eql 22 (.tmp 26) (.tmp 28) _ rfl _ _ _ rfl rfl (eqg_p16 _ _ _ _ _) E16.out ?_; simp only [Act.put, List.setIfInBounds_toArray, List.set_cons_zero, List.set_cons_succ])
    | (refine wp_bin_eq (by kernel_rfl) .eql 23 (.tmp 33) (.tmp 35) _ rfl _ _ _ rfl rfl (eqg_s4 _ _ _ _ _) E4.out ?_; simp only [Act.put, List.setIfInBounds_toArray, List.set_cons_zero, List.set_cons_succ])
    | (refine wp_load_cell (by kernel_rfl) 5 (.tmp 5) rfl ⟨X, 0, none⟩ (.int .u8 kind) rfl (lc_u8 (BA0.out.cell (i := 0) rfl)) ?_; simp only [Act.put, List.setIfInBounds_toArray, List.set_cons_zero, List.set_cons_succ])
    | (refine wp_load_cell (by kernel_rfl) 5 (.tmp 7) rfl ⟨X + 1, 0, none⟩ (.int .u8 kind) rfl (lc_u8 (BB0.out.cell (i := 0) rfl)) ?_; simp only [Act.put, List.setIfInBounds_toArray, List.set_cons_zero, List.set_cons_succ])
    | (refine wp_load_cell (by kernel_rfl) 5 (.tmp 11) rfl ⟨X, 1, none⟩ (.int .u8 mode) rfl (lc_u8 (BA0.out.cell (i := 1) rfl)) ?_; simp only [Act.put, List.setIfInBounds_toArray, List.set_cons_zero, List.set_cons_succ])
    | (refine wp_load_cell (by kernel_rfl) 5 (.tmp 13) rfl ⟨X + 1, 1, none⟩ (.int .u8 mode) rfl (lc_u8 (BB0.out.cell (i := 1) rfl)) ?_; simp only [Act.put, List.setIfInBounds_toArray, List.set_cons_zero, List.set_cons_succ])
    | (refine wp_load_cell (by kernel_rfl) 5 (.tmp 18) rfl ⟨X, 2, none⟩ (.int .u8 chroma) rfl (lc_u8 (BA0.out.cell (i := 2) rfl)) ?_; simp only [Act.put, List.setIfInBounds_toArray, List.set_cons_zero, List.set_cons_succ])
    | (refine wp_load_cell (by kernel_rfl) 5 (.tmp 20) rfl ⟨X + 1, 2, none⟩ (.int .u8 chroma) rfl (lc_u8 (BB0.out.cell (i := 2) rfl)) ?_; simp only [Act.put, List.setIfInBounds_toArray, List.set_cons_zero, List.set_cons_succ])
    | (refine wp_load_cell (by kernel_rfl) 22 (.tmp 25) rfl ⟨X, 3, none⟩ (.agg (prC pr).toArray) rfl BA0.out.pr ?_; simp only [Act.put, List.setIfInBounds_toArray, List.set_cons_zero, List.set_cons_succ])
    | (refine wp_load_cell (by kernel_rfl) 22 (.tmp 27) rfl ⟨X + 1, 3, none⟩ (.agg (prC pr).toArray) rfl BB0.out.pr ?_; simp only [Act.put, List.setIfInBounds_toArray, List.set_cons_zero, List.set_cons_succ])
    | (refine wp_load_cell (by kernel_rfl) 23 (.tmp 32) rfl ⟨X, 19, none⟩ (.agg (sbC sb).toArray) rfl BA0.out.sb ?_; simp only [Act.put, List.setIfInBounds_toArray, List.set_cons_zero, List.set_cons_succ])
    | (refine wp_load_cell (by kernel_rfl) 23 (.tmp 34) rfl ⟨X + 1, 19, none⟩ (.agg (sbC sb).toArray) rfl BB0.out.sb ?_; simp only [Act.put, List.setIfInBounds_toArray, List.set_cons_zero, List.set_cons_succ])
    | (refine wp_load_cell (by kernel_rfl) 5 (.tmp 39) rfl ⟨X, 25, none⟩ (.int .u8 cbp) rfl (lc_u8 (BA0.out.cell (i := 25) rfl)) ?_; simp only [Act.put, List.setIfInBounds_toArray, List.set_cons_zero, List.set_cons_succ])
    | (refine wp_load_cell (by kernel_rfl) 5 (.tmp 41) rfl ⟨X + 1, 25, none⟩ (.int .u8 cbp) rfl (lc_u8 (BB0.out.cell (i := 25) rfl)) ?_; simp only [Act.put, List.setIfInBounds_toArray, List.set_cons_zero, List.set_cons_succ])
    | (refine wp_load_cell (by kernel_rfl) 3 (.tmp 46) rfl ⟨X, 26, none⟩ (.int .i64 qp) rfl (lc_i64 (BA0.out.cell (i := 26) rfl)) ?_; simp only [Act.put, List.setIfInBounds_toArray, List.set_cons_zero, List.set_cons_succ])
    | (refine wp_load_cell (by kernel_rfl) 3 (.tmp 48) rfl ⟨X + 1, 26, none⟩ (.int .i64 qp) rfl (lc_i64 (BB0.out.cell (i := 26) rfl)) ?_; simp only [Act.put, List.setIfInBounds_toArray, List.set_cons_zero, List.set_cons_succ])
    | (refine wp_load_cell (by kernel_rfl) 9 (.tmp 53) rfl ⟨X, 28, none⟩ (.string pcm) rfl (lc_st (BA0.out.cell (i := 28) rfl)) ?_; simp only [Act.put, List.setIfInBounds_toArray, List.set_cons_zero, List.set_cons_succ])
    | (refine wp_load_cell (by kernel_rfl) 9 (.tmp 55) rfl ⟨X + 1, 28, none⟩ (.string pcm') rfl (lc_st (BB0.out.cell (i := 28) rfl)) ?_; simp only [Act.put, List.setIfInBounds_toArray, List.set_cons_zero, List.set_cons_succ]; refine HoldOn.out ?_))
  constructor
  refine wp_bin_eq (by kernel_rfl) .eql 9 (.tmp 54) (.tmp 56) _ rfl _ _ (.bool false) rfl rfl (g_str _ _ _ _ _) (ne_str _ NE.out) ?_
  refine wpList_skip_to 4 (.bool false) (by kernel_rfl) (fun a' ha hd => ?_)
  go_wp2_with fail
  refine bodyPost_ret (results_tmp rfl a'.tmps _ _) hd ?_
  exact ⟨by rw [ha], OW.out⟩
set_option maxRecDepth 100000 in
set_option maxHeartbeats 8000000 in
theorem peq_no_refs (x y : MV) (ra va ba rb vb bb : Value) (w : World) (hx : MAt w x ra va ba) (hy : MAt w y rb vb bb) (lx : MLen x) (ly : MLen y) (e0 : x.kind = y.kind) (e1 : x.mode = y.mode) (e2 : x.chroma = y.chroma) (e3 : x.pr = y.pr) (e4 : x.sb = y.sb) (e5 : x.cbp = y.cbp) (e6 : x.qp = y.qp) (e7 : x.pcm = y.pcm) (ne : ¬ x.refs = y.refs) :
    Calls Tryd.prog 15 #[mV x ra va ba, mV y rb vb bb] w fun e w' => e = .returned (.bool false) ∧ Only [] w w' := by
  obtain ⟨kind, mode, chroma, pr, sb, refs, mvds, cbp, qp, blocks, pcm⟩ := x
  obtain ⟨kind', mode', chroma', pr', sb', refs', mvds', cbp', qp', blocks', pcm'⟩ := y
  dsimp only at *
  subst e0 e1 e2 e3 e4 e5 e6 e7
  obtain ⟨W1, hW1⟩ : ∃ W, W = w.alloc (.cells (mC ⟨kind, mode, chroma, pr, sb, refs, mvds, cbp, qp, blocks, pcm⟩ ra va ba).toArray 28) := ⟨_, rfl⟩
  obtain ⟨W2, hW2⟩ : ∃ W, W = W1.alloc (.cells (mC ⟨kind, mode, chroma, pr, sb, refs', mvds', cbp, qp, blocks', pcm⟩ rb vb bb).toArray 28) := ⟨_, rfl⟩
  obtain ⟨X, hX⟩ : ∃ X, X = w.heap.size := ⟨_, rfl⟩
  have hX1 : X + 1 = W1.heap.size := by rw [hW1, hX]; exact (World.size_alloc _ _).symm
  have o1 : Only [] w W1 := hW1 ▸ ((Only.refl [] w).alloc _)
  have o2 : Only [] W1 W2 := hW2 ▸ ((Only.refl [] W1).alloc _)
  have BA : Blk W2 X 28 (mC ⟨kind, mode, chroma, pr, sb, refs, mvds, cbp, qp, blocks, pcm⟩ ra va ba).toArray := by
    have := Blk.new w 28 (mC ⟨kind, mode, chroma, pr, sb, refs, mvds, cbp, qp, blocks, pcm⟩ ra va ba).toArray
    rw [← hW1, ← hX] at this
    exact this.only o2 (by simp)
  have BB : Blk W2 (X + 1) 28 (mC ⟨kind, mode, chroma, pr, sb, refs', mvds', cbp, qp, blocks', pcm⟩ rb vb bb).toArray := by
    have := Blk.new W1 28 (mC ⟨kind, mode, chroma, pr, sb, refs', mvds', cbp, qp, blocks', pcm⟩ rb vb bb).toArray
    rwa [← hW2, ← hX1] at this
  have EI := hid (fun w' (o : Only [] W2 w') => by have := peqi_any ra rb refs refs' w' (hx.r.only0 ((o1.trans o2).trans o)) (hy.r.only0 ((o1.trans o2).trans o)) lx.r ly.r; rw [decide_eq_false ne] at this; exact this)
  have BA0 := hid BA
  have BB0 := hid BB
  clear BA BB
  have HW1 := hid hW1
  have HW2 := hid hW2
  have HX := hid hX
  have HX1 := hid hX1
  have OW := hid (o1.trans o2)
  have E16 := hid (show _ from by have := eql_p16 pr pr W2; rw [decide_eq_true rfl] at this; exact this)
  have E4 := hid (show _ from by have := eql_s4 sb sb W2; rw [decide_eq_true rfl] at this; exact this)
  have SE : (pcm.toList == pcm.toList) = true := beq_self_eq_true _
  have NE := hid ne
  clear hX hX1 hW1 hW2 o1 o2 hx hy lx ly ne
  unfold mV
  go_enter Tryd.func15, Tryd.ntmps15
  go_upto_region 1 with (first
    | (refine wp_box rfl 28 (.tmp 0) rfl (mC ⟨kind, mode, chroma, pr, sb, refs, mvds, cbp, qp, blocks, pcm⟩ ra va ba).toArray rfl HW1.out HX.out ?_; simp only [Act.put, List.setIfInBounds_toArray, List.set_cons_zero, List.set_cons_succ])
    | (refine wp_box rfl 28 (.tmp 1) rfl (mC ⟨kind, mode, chroma, pr, sb, refs', mvds', cbp, qp, blocks', pcm⟩ rb vb bb).toArray rfl HW2.out HX1.out ?_; simp only [Act.put, List.setIfInBounds_toArray, List.set_cons_zero, List.set_cons_succ]))
  simp only [List.append_eq, List.cons_append, List.nil_append]
  go_wp2_with (first
    | (refine wp_bin_eq (by kernel_rfl) .eql 22 (.tmp 26) (.tmp 28) _ rfl _ _ _ rfl rfl (eqg_p16 _ _ _ _ _) E16.out ?_; simp only [Act.put, List.setIfInBounds_toArray, List.set_cons_zero, List.set_cons_succ])
    | (refine wp_bin_eq (by kernel_rfl) .eql 23 (.tmp 33) (.tmp 35) _ rfl _ _ _ rfl rfl (eqg_s4 _ _ _ _ _) E4.out ?_; simp only [Act.put, List.setIfInBounds_toArray, List.set_cons_zero, List.set_cons_succ])
    | (refine wp_load_cell (by kernel_rfl) 5 (.tmp 5) rfl ⟨X, 0, none⟩ (.int .u8 kind) rfl (lc_u8 (BA0.out.cell (i := 0) rfl)) ?_; simp only [Act.put, List.setIfInBounds_toArray, List.set_cons_zero, List.set_cons_succ])
    | (refine wp_load_cell (by kernel_rfl) 5 (.tmp 7) rfl ⟨X + 1, 0, none⟩ (.int .u8 kind) rfl (lc_u8 (BB0.out.cell (i := 0) rfl)) ?_; simp only [Act.put, List.setIfInBounds_toArray, List.set_cons_zero, List.set_cons_succ])
    | (refine wp_load_cell (by kernel_rfl) 5 (.tmp 11) rfl ⟨X, 1, none⟩ (.int .u8 mode) rfl (lc_u8 (BA0.out.cell (i := 1) rfl)) ?_; simp only [Act.put, List.setIfInBounds_toArray, List.set_cons_zero, List.set_cons_succ])
    | (refine wp_load_cell (by kernel_rfl) 5 (.tmp 13) rfl ⟨X + 1, 1, none⟩ (.int .u8 mode) rfl (lc_u8 (BB0.out.cell (i := 1) rfl)) ?_; simp only [Act.put, List.setIfInBounds_toArray, List.set_cons_zero, List.set_cons_succ])
    | (refine wp_load_cell (by kernel_rfl) 5 (.tmp 18) rfl ⟨X, 2, none⟩ (.int .u8 chroma) rfl (lc_u8 (BA0.out.cell (i := 2) rfl)) ?_; simp only [Act.put, List.setIfInBounds_toArray, List.set_cons_zero, List.set_cons_succ])
    | (refine wp_load_cell (by kernel_rfl) 5 (.tmp 20) rfl ⟨X + 1, 2, none⟩ (.int .u8 chroma) rfl (lc_u8 (BB0.out.cell (i := 2) rfl)) ?_; simp only [Act.put, List.setIfInBounds_toArray, List.set_cons_zero, List.set_cons_succ])
    | (refine wp_load_cell (by kernel_rfl) 22 (.tmp 25) rfl ⟨X, 3, none⟩ (.agg (prC pr).toArray) rfl BA0.out.pr ?_; simp only [Act.put, List.setIfInBounds_toArray, List.set_cons_zero, List.set_cons_succ])
    | (refine wp_load_cell (by kernel_rfl) 22 (.tmp 27) rfl ⟨X + 1, 3, none⟩ (.agg (prC pr).toArray) rfl BB0.out.pr ?_; simp only [Act.put, List.setIfInBounds_toArray, List.set_cons_zero, List.set_cons_succ])
    | (refine wp_load_cell (by kernel_rfl) 23 (.tmp 32) rfl ⟨X, 19, none⟩ (.agg (sbC sb).toArray) rfl BA0.out.sb ?_; simp only [Act.put, List.setIfInBounds_toArray, List.set_cons_zero, List.set_cons_succ])
    | (refine wp_load_cell (by kernel_rfl) 23 (.tmp 34) rfl ⟨X + 1, 19, none⟩ (.agg (sbC sb).toArray) rfl BB0.out.sb ?_; simp only [Act.put, List.setIfInBounds_toArray, List.set_cons_zero, List.set_cons_succ])
    | (refine wp_load_cell (by kernel_rfl) 5 (.tmp 39) rfl ⟨X, 25, none⟩ (.int .u8 cbp) rfl (lc_u8 (BA0.out.cell (i := 25) rfl)) ?_; simp only [Act.put, List.setIfInBounds_toArray, List.set_cons_zero, List.set_cons_succ])
    | (refine wp_load_cell (by kernel_rfl) 5 (.tmp 41) rfl ⟨X + 1, 25, none⟩ (.int .u8 cbp) rfl (lc_u8 (BB0.out.cell (i := 25) rfl)) ?_; simp only [Act.put, List.setIfInBounds_toArray, List.set_cons_zero, List.set_cons_succ])
    | (refine wp_load_cell (by kernel_rfl) 3 (.tmp 46) rfl ⟨X, 26, none⟩ (.int .i64 qp) rfl (lc_i64 (BA0.out.cell (i := 26) rfl)) ?_; simp only [Act.put, List.setIfInBounds_toArray, List.set_cons_zero, List.set_cons_succ])
    | (refine wp_load_cell (by kernel_rfl) 3 (.tmp 48) rfl ⟨X + 1, 26, none⟩ (.int .i64 qp) rfl (lc_i64 (BB0.out.cell (i := 26) rfl)) ?_; simp only [Act.put, List.setIfInBounds_toArray, List.set_cons_zero, List.set_cons_succ])
    | (refine wp_load_cell (by kernel_rfl) 9 (.tmp 53) rfl ⟨X, 28, none⟩ (.string pcm) rfl (lc_st (BA0.out.cell (i := 28) rfl)) ?_; simp only [Act.put, List.setIfInBounds_toArray, List.set_cons_zero, List.set_cons_succ])
    | (refine wp_load_cell (by kernel_rfl) 9 (.tmp 55) rfl ⟨X + 1, 28, none⟩ (.string pcm) rfl (lc_st (BB0.out.cell (i := 28) rfl)) ?_; simp only [Act.put, List.setIfInBounds_toArray, List.set_cons_zero, List.set_cons_succ])
    | (refine wp_load_cell (by kernel_rfl) 24 (.tmp 60) rfl ⟨X, 23, none⟩ (ra) rfl (lc_is (BA0.out.cell (i := 23) rfl)) ?_; simp only [Act.put, List.setIfInBounds_toArray, List.set_cons_zero, List.set_cons_succ])
    | (refine wp_load_cell (by kernel_rfl) 24 (.tmp 62) rfl ⟨X + 1, 23, none⟩ (rb) rfl (lc_is (BB0.out.cell (i := 23) rfl)) ?_; simp only [Act.put, List.setIfInBounds_toArray, List.set_cons_zero, List.set_cons_succ]))
  refine (EI.out _ (Only.refl [] W2)).mono ?_
  rintro e w3 ⟨rfl, o_⟩
  have O3 := hid (o_)
  have BA3 := hid (BA0.out.only o_ (by simp))
  have BB3 := hid (BB0.out.only o_ (by simp))
  clear o_ BA0 BB0
  go_wp2_with fail
  go_ret
  exact ⟨rfl, OW.out.trans O3.out⟩
set_option maxRecDepth 100000 in
set_option maxHeartbeats 8000000 in
theorem peq_no_mvds (x y : MV) (ra va ba rb vb bb : Value) (w : World) (hx : MAt w x ra va ba) (hy : MAt w y rb vb bb) (lx : MLen x) (ly : MLen y) (e0 : x.kind = y.kind) (e1 : x.mode = y.mode) (e2 : x.chroma = y.chroma) (e3 : x.pr = y.pr) (e4 : x.sb = y.sb) (e5 : x.cbp = y.cbp) (e6 : x.qp = y.qp) (e7 : x.pcm = y.pcm) (e8 : x.refs = y.refs) (ne : ¬ x.mvds = y.mvds) :
    Calls Tryd.prog 15 #[mV x ra va ba, mV y rb vb bb] w fun e w' => e = .returned (.bool false) ∧ Only [] w w' := by
  obtain ⟨kind, mode, chroma, pr, sb, refs, mvds, cbp, qp, blocks, pcm⟩ := x
  obtain ⟨kind', mode', chroma', pr', sb', refs', mvds', cbp', qp', blocks', pcm'⟩ := y
  dsimp only at *
  subst e0 e1 e2 e3 e4 e5 e6 e7 e8
  obtain ⟨W1, hW1⟩ : ∃ W, W = w.alloc (.cells (mC ⟨kind, mode, chroma, pr, sb, refs, mvds, cbp, qp, blocks, pcm⟩ ra va ba).toArray 28) := ⟨_, rfl⟩
  obtain ⟨W2, hW2⟩ : ∃ W, W = W1.alloc (.cells (mC ⟨kind, mode, chroma, pr, sb, refs, mvds', cbp, qp, blocks', pcm⟩ rb vb bb).toArray 28) := ⟨_, rfl⟩
  obtain ⟨X, hX⟩ : ∃ X, X = w.heap.size := ⟨_, rfl⟩
  have hX1 : X + 1 = W1.heap.size := by rw [hW1, hX]; exact (World.size_alloc _ _).symm
  have o1 : Only [] w W1 := hW1 ▸ ((Only.refl [] w).alloc _)
  have o2 : Only [] W1 W2 := hW2 ▸ ((Only.refl [] W1).alloc _)
  have BA : Blk W2 X 28 (mC ⟨kind, mode, chroma, pr, sb, refs, mvds, cbp, qp, blocks, pcm⟩ ra va ba).toArray := by
    have := Blk.new w 28 (mC ⟨kind, mode, chroma, pr, sb, refs, mvds, cbp, qp, blocks, pcm⟩ ra va ba).toArray
    rw [← hW1, ← hX] at this
    exact this.only o2 (by simp)
  have BB : Blk W2 (X + 1) 28 (mC ⟨kind, mode, chroma, pr, sb, refs, mvds', cbp, qp, blocks', pcm⟩ rb vb bb).toArray := by
    have := Blk.new W1 28 (mC ⟨kind, mode, chroma, pr, sb, refs, mvds', cbp, qp, blocks', pcm⟩ rb vb bb).toArray
    rwa [← hW2, ← hX1] at this
  have EI := hid (fun w' (o : Only [] W2 w') => by have := peqi_any ra rb refs refs w' (hx.r.only0 ((o1.trans o2).trans o)) (hy.r.only0 ((o1.trans o2).trans o)) lx.r ly.r; rw [decide_eq_true rfl] at this; exact this)
  have EV := hid (fun w' (o : Only [] W2 w') => by have := peqv_any va vb mvds mvds' w' (hx.v.only0 ((o1.trans o2).trans o)) (hy.v.only0 ((o1.trans o2).trans o)) lx.v ly.v; rw [decide_eq_false ne] at this; exact this)
  have BA0 := hid BA
  have BB0 := hid BB
  clear BA BB
  have HW1 := hid hW1
  have HW2 := hid hW2
  have HX := hid hX
  have HX1 := hid hX1
  have OW := hid (o1.trans o2)
  have E16 := hid (show _ from by have := eql_p16 pr pr W2; rw [decide_eq_true rfl] at this; exact this)
  have E4 := hid (show _ from by have := eql_s4 sb sb W2; rw [decide_eq_true rfl] at this; exact this)
  have SE : (pcm.toList == pcm.toList) = true := beq_self_eq_true _
  have NE := hid ne
  clear hX hX1 hW1 hW2 o1 o2 hx hy lx ly ne
  unfold mV
  go_enter Tryd.func15, Tryd.ntmps15
  go_upto_region 1 with (first
    | (refine wp_box rfl 28 (.tmp 0) rfl (mC ⟨kind, mode, chroma, pr, sb, refs, mvds, cbp, qp, blocks, pcm⟩ ra va ba).toArray rfl HW1.out HX.out ?_; simp only [Act.put, List.setIfInBounds_toArray, List.set_cons_zero, List.set_cons_succ])
    | (refine wp_box rfl 28 (.tmp 1) rfl (mC ⟨kind, mode, chroma, pr, sb, refs, mvds', cbp, qp, blocks', pcm⟩ rb vb bb).toArray rfl HW2.out HX1.out ?_; simp only [Act.put, List.setIfInBounds_toArray, List.set_cons_zero, List.set_cons_succ]))
  simp only [List.append_eq, List.cons_append, List.nil_append]
  go_wp2_with (first
    | (refine wp_bin_eq (by kernel_rfl) .eql 22 (.tmp 26) (.tmp 28) _ rfl _ _ _ rfl rfl (eqg_p16 _ _ _ _ _) E16.out ?_; simp only [Act.put, List.setIfInBounds_toArray, List.set_cons_zero, List.set_cons_succ])
    | (refine wp_bin_eq (by kernel_rfl) .eql 23 (.tmp 33) (.tmp 35) _ rfl _ _ _ rfl rfl (eqg_s4 _ _ _ _ _) E4.out ?_; simp only [Act.put, List.setIfInBounds_toArray, List.set_cons_zero, List.set_cons_succ])
    | (refine wp_load_cell (by kernel_rfl) 5 (.tmp 5) rfl ⟨X, 0, none⟩ (.int .u8 kind) rfl (lc_u8 (BA0.out.cell (i := 0) rfl)) ?_; simp only [Act.put, List.setIfInBounds_toArray, List.set_cons_zero, List.set_cons_succ])
    | (refine wp_load_cell (by kernel_rfl) 5 (.tmp 7) rfl ⟨X + 1, 0, none⟩ (.int .u8 kind) rfl (lc_u8 (BB0.out.cell (i := 0) rfl)) ?_; simp only [Act.put, List.setIfInBounds_toArray, List.set_cons_zero, List.set_cons_succ])
    | (refine wp_load_cell (by kernel_rfl) 5 (.tmp 11) rfl ⟨X, 1, none⟩ (.int .u8 mode) rfl (lc_u8 (BA0.out.cell (i := 1) rfl)) ?_; simp only [Act.put, List.setIfInBounds_toArray, List.set_cons_zero, List.set_cons_succ])
    | (refine wp_load_cell (by kernel_rfl) 5 (.tmp 13) rfl ⟨X + 1, 1, none⟩ (.int .u8 mode) rfl (lc_u8 (BB0.out.cell (i := 1) rfl)) ?_; simp only [Act.put, List.setIfInBounds_toArray, List.set_cons_zero, List.set_cons_succ])
    | (refine wp_load_cell (by kernel_rfl) 5 (.tmp 18) rfl ⟨X, 2, none⟩ (.int .u8 chroma) rfl (lc_u8 (BA0.out.cell (i := 2) rfl)) ?_; simp only [Act.put, List.setIfInBounds_toArray, List.set_cons_zero, List.set_cons_succ])
    | (refine wp_load_cell (by kernel_rfl) 5 (.tmp 20) rfl ⟨X + 1, 2, none⟩ (.int .u8 chroma) rfl (lc_u8 (BB0.out.cell (i := 2) rfl)) ?_; simp only [Act.put, List.setIfInBounds_toArray, List.set_cons_zero, List.set_cons_succ])
    | (refine wp_load_cell (by kernel_rfl) 22 (.tmp 25) rfl ⟨X, 3, none⟩ (.agg (prC pr).toArray) rfl BA0.out.pr ?_; simp only [Act.put, List.setIfInBounds_toArray, List.set_cons_zero, List.set_cons_succ])
    | (refine wp_load_cell (by kernel_rfl) 22 (.tmp 27) rfl ⟨X + 1, 3, none⟩ (.agg (prC pr).toArray) rfl BB0.out.pr ?_; simp only [Act.put, List.setIfInBounds_toArray, List.set_cons_zero, List.set_cons_succ])
    | (refine wp_load_cell (by kernel_rfl) 23 (.tmp 32) rfl ⟨X, 19, none⟩ (.agg (sbC sb).toArray) rfl BA0.out.sb ?_; simp only [Act.put, List.setIfInBounds_toArray, List.set_cons_zero, List.set_cons_succ])
    | (refine wp_load_cell (by kernel_rfl) 23 (.tmp 34) rfl ⟨X + 1, 19, none⟩ (.agg (sbC sb).toArray) rfl BB0.out.sb ?_; simp only [Act.put, List.setIfInBounds_toArray, List.set_cons_zero, List.set_cons_succ])
    | (refine wp_load_cell (by kernel_rfl) 5 (.tmp 39) rfl ⟨X, 25, none⟩ (.int .u8 cbp) rfl (lc_u8 (BA0.out.cell (i := 25) rfl)) ?_; simp only [Act.put, List.setIfInBounds_toArray, List.set_cons_zero, List.set_cons_succ])
    | (refine wp_load_cell (by kernel_rfl) 5 (.tmp 41) rfl ⟨X + 1, 25, none⟩ (.int .u8 cbp) rfl (lc_u8 (BB0.out.cell (i := 25) rfl)) ?_; simp only [Act.put, List.setIfInBounds_toArray, List.set_cons_zero, List.set_cons_succ])
    | (refine wp_load_cell (by kernel_rfl) 3 (.tmp 46) rfl ⟨X, 26, none⟩ (.int .i64 qp) rfl (lc_i64 (BA0.out.cell (i := 26) rfl)) ?_; simp only [Act.put, List.setIfInBounds_toArray, List.set_cons_zero, List.set_cons_succ])
    | (refine wp_load_cell (by kernel_rfl) 3 (.tmp 48) rfl ⟨X + 1, 26, none⟩ (.int .i64 qp) rfl (lc_i64 (BB0.out.cell (i := 26) rfl)) ?_; simp only [Act.put, List.setIfInBounds_toArray, List.set_cons_zero, List.set_cons_succ])
    | (refine wp_load_cell (by kernel_rfl) 9 (.tmp 53) rfl ⟨X, 28, none⟩ (.string pcm) rfl (lc_st (BA0.out.cell (i := 28) rfl)) ?_; simp only [Act.put, List.setIfInBounds_toArray, List.set_cons_zero, List.set_cons_succ])
    | (refine wp_load_cell (by kernel_rfl) 9 (.tmp 55) rfl ⟨X + 1, 28, none⟩ (.string pcm) rfl (lc_st (BB0.out.cell (i := 28) rfl)) ?_; simp only [Act.put, List.setIfInBounds_toArray, List.set_cons_zero, List.set_cons_succ])
    | (refine wp_load_cell (by kernel_rfl) 24 (.tmp 60) rfl ⟨X, 23, none⟩ (ra) rfl (lc_is (BA0.out.cell (i := 23) rfl)) ?_; simp only [Act.put, List.setIfInBounds_toArray, List.set_cons_zero, List.set_cons_succ])
    | (refine wp_load_cell (by kernel_rfl) 24 (.tmp 62) rfl ⟨X + 1, 23, none⟩ (rb) rfl (lc_is (BB0.out.cell (i := 23) rfl)) ?_; simp only [Act.put, List.setIfInBounds_toArray, List.set_cons_zero, List.set_cons_succ]))
  refine (EI.out _ (Only.refl [] W2)).mono ?_
  rintro e w3 ⟨rfl, o_⟩
  have O3 := hid (o_)
  have BA3 := hid (BA0.out.only o_ (by simp))
  have BB3 := hid (BB0.out.only o_ (by simp))
  clear o_ BA0 BB0
  go_wp2_with (first
    | (refine wp_load_cell (by kernel_rfl) 25 (.tmp 67) rfl ⟨X, 24, none⟩ (va) rfl (lc_vs (BA3.out.cell (i := 24) rfl)) ?_; simp only [Act.put, List.setIfInBounds_toArray, List.set_cons_zero, List.set_cons_succ])
    | (refine wp_load_cell (by kernel_rfl) 25 (.tmp 69) rfl ⟨X + 1, 24, none⟩ (vb) rfl (lc_vs (BB3.out.cell (i := 24) rfl)) ?_; simp only [Act.put, List.setIfInBounds_toArray, List.set_cons_zero, List.set_cons_succ]))
  refine (EV.out _ O3.out).mono ?_
  rintro e w4 ⟨rfl, o_⟩
  have O4 := hid (O3.out.trans o_)
  have BA4 := hid (BA3.out.only o_ (by simp))
  have BB4 := hid (BB3.out.only o_ (by simp))
  clear o_ BA3 BB3
  go_wp2_with fail
  go_ret
  exact ⟨rfl, OW.out.trans O4.out⟩
set_option maxRecDepth 100000 in
set_option maxHeartbeats 8000000 in
theorem peq_no_blocks (x y : MV) (ra va ba rb vb bb : Value) (w : World) (hx : MAt w x ra va ba) (hy : MAt w y rb vb bb) (lx : MLen x) (ly : MLen y) (e0 : x.kind = y.kind) (e1 : x.mode = y.mode) (e2 : x.chroma = y.chroma) (e3 : x.pr = y.pr) (e4 : x.sb = y.sb) (e5 : x.cbp = y.cbp) (e6 : x.qp = y.qp) (e7 : x.pcm = y.pcm) (e8 : x.refs = y.refs) (e9 : x.mvds = y.mvds) (ne : ¬ x.blocks = y.blocks) :
    Calls Tryd.prog 15 #[mV x ra va ba, mV y rb vb bb] w fun e w' => e = .returned (.bool false) ∧ Only [] w w' := by
  obtain ⟨kind, mode, chroma, pr, sb, refs, mvds, cbp, qp, blocks, pcm⟩ := x
  obtain ⟨kind', mode', chroma', pr', sb', refs', mvds', cbp', qp', blocks', pcm'⟩ := y
  dsimp only at *
  subst e0 e1 e2 e3 e4 e5 e6 e7 e8 e9
  obtain ⟨W1, hW1⟩ : ∃ W, W = w.alloc (.cells (mC ⟨kind, mode, chroma, pr, sb, refs, mvds, cbp, qp, blocks, pcm⟩ ra va ba).toArray 28) := ⟨_, rfl⟩
  obtain ⟨W2, hW2⟩ : ∃ W, W = W1.alloc (.cells (mC ⟨kind, mode, chroma, pr, sb, refs, mvds, cbp, qp, blocks', pcm⟩ rb vb bb).toArray 28) := ⟨_, rfl⟩
  obtain ⟨X, hX⟩ : ∃ X, X = w.heap.size := ⟨_, rfl⟩
  have hX1 : X + 1 = W1.heap.size := by rw [hW1, hX]; exact (World.size_alloc _ _).symm
  have o1 : Only [] w W1 := hW1 ▸ ((Only.refl [] w).alloc _)
  have o2 : Only [] W1 W2 := hW2 ▸ ((Only.refl [] W1).alloc _)
  have BA : Blk W2 X 28 (mC ⟨kind, mode, chroma, pr, sb, refs, mvds, cbp, qp, blocks, pcm⟩ ra va ba).toArray := by
    have := Blk.new w 28 (mC ⟨kind, mode, chroma, pr, sb, refs, mvds, cbp, qp, blocks, pcm⟩ ra va ba).toArray
    rw [← hW1, ← hX] at this
    exact this.only o2 (by simp)
  have BB : Blk W2 (X + 1) 28 (mC ⟨kind, mode, chroma, pr, sb, refs, mvds, cbp, qp, blocks', pcm⟩ rb vb bb).toArray := by
    have := Blk.new W1 28 (mC ⟨kind, mode, chroma, pr, sb, refs, mvds, cbp, qp, blocks', pcm⟩ rb vb bb).toArray
    rwa [← hW2, ← hX1] at this
  have EI := hid (fun w' (o : Only [] W2 w') => by have := peqi_any ra rb refs refs w' (hx.r.only0 ((o1.trans o2).trans o)) (hy.r.only0 ((o1.trans o2).trans o)) lx.r ly.r; rw [decide_eq_true rfl] at this; exact this)
  have EV := hid (fun w' (o : Only [] W2 w') => by have := peqv_any va vb mvds mvds w' (hx.v.only0 ((o1.trans o2).trans o)) (hy.v.only0 ((o1.trans o2).trans o)) lx.v ly.v; rw [decide_eq_true rfl] at this; exact this)
  have EB := hid (fun w' (o : Only [] W2 w') => by have := peqb_any ba bb blocks blocks' w' (hx.b.only0 ((o1.trans o2).trans o)) (hy.b.only0 ((o1.trans o2).trans o)) lx.b ly.b lx.i ly.i; rw [decide_eq_false ne] at this; exact this)
  have BA0 := hid BA
  have BB0 := hid BB
  clear BA BB
  have HW1 := hid hW1
  have HW2 := hid hW2
  have HX := hid hX
  have HX1 := hid hX1
  have OW := hid (o1.trans o2)
  have E16 := hid (show _ from by have := eql_p16 pr pr W2; rw [decide_eq_true rfl] at this; exact this)
  have E4 := hid (show _ from by have := eql_s4 sb sb W2; rw [decide_eq_true rfl] at this; exact this)
  have SE : (pcm.toList == pcm.toList) = true := beq_self_eq_true _
  have NE := hid ne
  clear hX hX1 hW1 hW2 o1 o2 hx hy lx ly ne
  unfold mV
  go_enter Tryd.func15, Tryd.ntmps15
  go_upto_region 1 with (first
    | (refine wp_box rfl 28 (.tmp 0) rfl (mC ⟨kind, mode, chroma, pr, sb, refs, mvds, cbp, qp, blocks, pcm⟩ ra va ba).toArray rfl HW1.out HX.out ?_; simp only [Act.put, List.setIfInBounds_toArray, List.set_cons_zero, List.set_cons_succ])
    | (refine wp_box rfl 28 (.tmp 1) rfl (mC ⟨kind, mode, chroma, pr, sb, refs, mvds, cbp, qp, blocks', pcm⟩ rb vb bb).toArray rfl HW2.out HX1.out ?_; simp only [Act.put, List.setIfInBounds_toArray, List.set_cons_zero, List.set_cons_succ]))
  simp only [List.append_eq, List.cons_append, List.nil_append]
  go_wp2_with (first
    | (refine wp_bin_eq (by kernel_rfl) .eql 22 (.tmp 26) (.tmp 28) _ rfl _ _ _ rfl rfl (eqg_p16 _ _ _ _ _) E16.out ?_; simp only [Act.put, List.setIfInBounds_toArray, List.set_cons_zero, List.set_cons_succ])
    | (refine wp_bin_eq (by kernel_rfl) .eql 23 (.tmp 33) (.tmp 35) _ rfl _ _ _ rfl rfl (eqg_s4 _ _ _ _ _) E4.out ?_; simp only [Act.put, List.setIfInBounds_toArray, List.set_cons_zero, List.set_cons_succ])
    | (refine wp_load_cell (by kernel_rfl) 5 (.tmp 5) rfl ⟨X, 0, none⟩ (.int .u8 kind) rfl (lc_u8 (BA0.out.cell (i := 0) rfl)) ?_; simp only [Act.put, List.setIfInBounds_toArray, List.set_cons_zero, List.set_cons_succ])
    | (refine wp_load_cell (by kernel_rfl) 5 (.tmp 7) rfl ⟨X + 1, 0, none⟩ (.int .u8 kind) rfl (lc_u8 (BB0.out.cell (i := 0) rfl)) ?_; simp only [Act.put, List.setIfInBounds_toArray, List.set_cons_zero, List.set_cons_succ])
    | (refine wp_load_cell (by kernel_rfl) 5 (.tmp 11) rfl ⟨X, 1, none⟩ (.int .u8 mode) rfl (lc_u8 (BA0.out.cell (i := 1) rfl)) ?_; simp only [Act.put, List.setIfInBounds_toArray, List.set_cons_zero, List.set_cons_succ])
    | (refine wp_load_cell (by kernel_rfl) 5 (.tmp 13) rfl ⟨X + 1, 1, none⟩ (.int .u8 mode) rfl (lc_u8 (BB0.out.cell (i := 1) rfl)) ?_; simp only [Act.put, List.setIfInBounds_toArray, List.set_cons_zero, List.set_cons_succ])
    | (refine wp_load_cell (by kernel_rfl) 5 (.tmp 18) rfl ⟨X, 2, none⟩ (.int .u8 chroma) rfl (lc_u8 (BA0.out.cell (i := 2) rfl)) ?_; simp only [Act.put, List.setIfInBounds_toArray, List.set_cons_zero, List.set_cons_succ])
    | (refine wp_load_cell (by kernel_rfl) 5 (.tmp 20) rfl ⟨X + 1, 2, none⟩ (.int .u8 chroma) rfl (lc_u8 (BB0.out.cell (i := 2) rfl)) ?_; simp only [Act.put, List.setIfInBounds_toArray, List.set_cons_zero, List.set_cons_succ])
    | (refine wp_load_cell (by kernel_rfl) 22 (.tmp 25) rfl ⟨X, 3, none⟩ (.agg (prC pr).toArray) rfl BA0.out.pr ?_; simp only [Act.put, List.setIfInBounds_toArray, List.set_cons_zero, List.set_cons_succ])
    | (refine wp_load_cell (by kernel_rfl) 22 (.tmp 27) rfl ⟨X + 1, 3, none⟩ (.agg (prC pr).toArray) rfl BB0.out.pr ?_; simp only [Act.put, List.setIfInBounds_toArray, List.set_cons_zero, List.set_cons_succ])
    | (refine wp_load_cell (by kernel_rfl) 23 (.tmp 32) rfl ⟨X, 19, none⟩ (.agg (sbC sb).toArray) rfl BA0.out.sb ?_; simp only [Act.put, List.setIfInBounds_toArray, List.set_cons_zero, List.set_cons_succ])
    | (refine wp_load_cell (by kernel_rfl) 23 (.tmp 34) rfl ⟨X + 1, 19, none⟩ (.agg (sbC sb).toArray) rfl BB0.out.sb ?_; simp only [Act.put, List.setIfInBounds_toArray, List.set_cons_zero, List.set_cons_succ])
    | (refine wp_load_cell (by kernel_rfl) 5 (.tmp 39) rfl ⟨X, 25, none⟩ (.int .u8 cbp) rfl (lc_u8 (BA0.out.cell (i := 25) rfl)) ?_; simp only [Act.put, List.setIfInBounds_toArray, List.set_cons_zero, List.set_cons_succ])
    | (refine wp_load_cell (by kernel_rfl) 5 (.tmp 41) rfl ⟨X + 1, 25, none⟩ (.int .u8 cbp) rfl (lc_u8 (BB0.out.cell (i := 25) rfl)) ?_; simp only [Act.put, List.setIfInBounds_toArray, List.set_cons_zero, List.set_cons_succ])
    | (refine wp_load_cell (by kernel_rfl) 3 (.tmp 46) rfl ⟨X, 26, none⟩ (.int .i64 qp) rfl (lc_i64 (BA0.out.cell (i := 26) rfl)) ?_; simp only [Act.put, List.setIfInBounds_toArray, List.set_cons_zero, List.set_cons_succ])
    | (refine wp_load_cell (by kernel_rfl) 3 (.tmp 48) rfl ⟨X + 1, 26, none⟩ (.int .i64 qp) rfl (lc_i64 (BB0.out.cell (i := 26) rfl)) ?_; simp only [Act.put, List.setIfInBounds_toArray, List.set_cons_zero, List.set_cons_succ])
    | (refine wp_load_cell (by kernel_rfl) 9 (.tmp 53) rfl ⟨X, 28, none⟩ (.string pcm) rfl (lc_st (BA0.out.cell (i := 28) rfl)) ?_; simp only [Act.put, List.setIfInBounds_toArray, List.set_cons_zero, List.set_cons_succ])
    | (refine wp_load_cell (by kernel_rfl) 9 (.tmp 55) rfl ⟨X + 1, 28, none⟩ (.string pcm) rfl (lc_st (BB0.out.cell (i := 28) rfl)) ?_; simp only [Act.put, List.setIfInBounds_toArray, List.set_cons_zero, List.set_cons_succ])
    | (refine wp_load_cell (by kernel_rfl) 24 (.tmp 60) rfl ⟨X, 23, none⟩ (ra) rfl (lc_is (BA0.out.cell (i := 23) rfl)) ?_; simp only [Act.put, List.setIfInBounds_toArray, List.set_cons_zero, List.set_cons_succ])
    | (refine wp_load_cell (by kernel_rfl) 24 (.tmp 62) rfl ⟨X + 1, 23, none⟩ (rb) rfl (lc_is (BB0.out.cell (i := 23) rfl)) ?_; simp only [Act.put, List.setIfInBounds_toArray, List.set_cons_zero, List.set_cons_succ]))
  refine (EI.out _ (Only.refl [] W2)).mono ?_
  rintro e w3 ⟨rfl, o_⟩
  have O3 := hid (o_)
  have BA3 := hid (BA0.out.only o_ (by simp))
  have BB3 := hid (BB0.out.only o_ (by simp))
  clear o_ BA0 BB0
  go_wp2_with (first
    | (refine wp_load_cell (by kernel_rfl) 25 (.tmp 67) rfl ⟨X, 24, none⟩ (va) rfl (lc_vs (BA3.out.cell (i := 24) rfl)) ?_; simp only [Act.put, List.setIfInBounds_toArray, List.set_cons_zero, List.set_cons_succ])
    | (refine wp_load_cell (by kernel_rfl) 25 (.tmp 69) rfl ⟨X + 1, 24, none⟩ (vb) rfl (lc_vs (BB3.out.cell (i := 24) rfl)) ?_; simp only [Act.put, List.setIfInBounds_toArray, List.set_cons_zero, List.set_cons_succ]))
  refine (EV.out _ O3.out).mono ?_
  rintro e w4 ⟨rfl, o_⟩
  have O4 := hid (O3.out.trans o_)
  have BA4 := hid (BA3.out.only o_ (by simp))
  have BB4 := hid (BB3.out.only o_ (by simp))
  clear o_ BA3 BB3
  go_wp2_with (first
    | (refine wp_load_cell (by kernel_rfl) 26 (.tmp 74) rfl ⟨X, 27, none⟩ (ba) rfl (lc_bs (BA4.out.cell (i := 27) rfl)) ?_; simp only [Act.put, List.setIfInBounds_toArray, List.set_cons_zero, List.set_cons_succ])
    | (refine wp_load_cell (by kernel_rfl) 26 (.tmp 76) rfl ⟨X + 1, 27, none⟩ (bb) rfl (lc_bs (BB4.out.cell (i := 27) rfl)) ?_; simp only [Act.put, List.setIfInBounds_toArray, List.set_cons_zero, List.set_cons_succ]))
  refine (EB.out _ O4.out).mono ?_
  rintro e w5 ⟨rfl, o_⟩
  have O5 := hid (O4.out.trans o_)
  have BA5 := hid (BA4.out.only o_ (by simp))
  have BB5 := hid (BB4.out.only o_ (by simp))
  clear o_ BA4 BB4
  go_wp2_with fail
  go_ret
  exact ⟨rfl, OW.out.trans O5.out⟩
set_option maxRecDepth 100000 in
set_option maxHeartbeats 8000000 in
theorem peq_same (x : MV) (ra va ba rb vb bb : Value) (w : World) (hx : MAt w x ra va ba) (hy : MAt w x rb vb bb) (lx : MLen x) :
    Calls Tryd.prog 15 #[mV x ra va ba, mV x rb vb bb] w fun e w' => e = .returned (.bool true) ∧ Only [] w w' := by
  have ly := lx
  obtain ⟨kind, mode, chroma, pr, sb, refs, mvds, cbp, qp, blocks, pcm⟩ := x
  try dsimp only at *
  obtain ⟨W1, hW1⟩ : ∃ W, W = w.alloc (.cells (mC ⟨kind, mode, chroma, pr, sb, refs, mvds, cbp, qp, blocks, pcm⟩ ra va ba).toArray 28) := ⟨_, rfl⟩
  obtain ⟨W2, hW2⟩ : ∃ W, W = W1.alloc (.cells (mC ⟨kind, mode, chroma, pr, sb, refs, mvds, cbp, qp, blocks, pcm⟩ rb vb bb).toArray 28) := ⟨_, rfl⟩
  obtain ⟨X, hX⟩ : ∃ X, X = w.heap.size := ⟨_, rfl⟩
  have hX1 : X + 1 = W1.heap.size := by rw [hW1, hX]; exact (World.size_alloc _ _).symm
  have o1 : Only [] w W1 := hW1 ▸ ((Only.refl [] w).alloc _)
  have o2 : Only [] W1 W2 := hW2 ▸ ((Only.refl [] W1).alloc _)
  have BA : Blk W2 X 28 (mC ⟨kind, mode, chroma, pr, sb, refs, mvds, cbp, qp, blocks, pcm⟩ ra va ba).toArray := by
    have := Blk.new w 28 (mC ⟨kind, mode, chroma, pr, sb, refs, mvds, cbp, qp, blocks, pcm⟩ ra va ba).toArray
    rw [← hW1, ← hX] at this
    exact this.only o2 (by simp)
  have BB : Blk W2 (X + 1) 28 (mC ⟨kind, mode, chroma, pr, sb, refs, mvds, cbp, qp, blocks, pcm⟩ rb vb bb).toArray := by
    have := Blk.new W1 28 (mC ⟨kind, mode, chroma, pr, sb, refs, mvds, cbp, qp, blocks, pcm⟩ rb vb bb).toArray
    rwa [← hW2, ← hX1] at this
  have EI := hid (fun w' (o : Only [] W2 w') => by have := peqi_any ra rb refs refs w' (hx.r.only0 ((o1.trans o2).trans o)) (hy.r.only0 ((o1.trans o2).trans o)) lx.r ly.r; rw [decide_eq_true rfl] at this; exact this)
  have EV := hid (fun w' (o : Only [] W2 w') => by have := peqv_any va vb mvds mvds w' (hx.v.only0 ((o1.trans o2).trans o)) (hy.v.only0 ((o1.trans o2).trans o)) lx.v ly.v; rw [decide_eq_true rfl] at this; exact this)
  have EB := hid (fun w' (o : Only [] W2 w') => by have := peqb_any ba bb blocks blocks w' (hx.b.only0 ((o1.trans o2).trans o)) (hy.b.only0 ((o1.trans o2).trans o)) lx.b ly.b lx.i ly.i; rw [decide_eq_true rfl] at this; exact this)
  have BA0 := hid BA
  have BB0 := hid BB
  clear BA BB
  have HW1 := hid hW1
  have HW2 := hid hW2
  have HX := hid hX
  have HX1 := hid hX1
  have OW := hid (o1.trans o2)
  have E16 := hid (show _ from by have := eql_p16 pr pr W2; rw [decide_eq_true rfl] at this; exact this)
  have E4 := hid (show _ from by have := eql_s4 sb sb W2; rw [decide_eq_true rfl] at this; exact this)
  have SE : (pcm.toList == pcm.toList) = true := beq_self_eq_true _
  clear hX hX1 hW1 hW2 o1 o2 hx hy lx ly
  unfold mV
  go_enter Tryd.func15, Tryd.ntmps15
  go_upto_region 1 with (first
    | (refine wp_box rfl 28 (.tmp 0) rfl (mC ⟨kind, mode, chroma, pr, sb, refs, mvds, cbp, qp, blocks, pcm⟩ ra va ba).toArray rfl HW1.out HX.out ?_; simp only [Act.put, List.setIfInBounds_toArray, List.set_cons_zero, List.set_cons_succ])
    | (refine wp_box rfl 28 (.tmp 1) rfl (mC ⟨kind, mode, chroma, pr, sb, refs, mvds, cbp, qp, blocks, pcm⟩ rb vb bb).toArray rfl HW2.out HX1.out ?_; simp only [Act.put, List.setIfInBounds_toArray, List.set_cons_zero, List.set_cons_succ]))
  simp only [List.append_eq, List.cons_append, List.nil_append]
  go_wp2_with (first
    | (refine wp_bin_eq (by kernel_rfl) .eql 22 (.tmp 26) (.tmp 28) _ rfl _ _ _ rfl rfl (eqg_p16 _ _ _ _ _) E16.out ?_; simp only [Act.put, List.setIfInBounds_toArray, List.set_cons_zero, List.set_cons_succ])
    | (refine wp_bin_eq (by kernel_rfl) .eql 23 (.tmp 33) (.tmp 35) _ rfl _ _ _ rfl rfl (eqg_s4 _ _ _ _ _) E4.out ?_; simp only [Act.put, List.setIfInBounds_toArray, List.set_cons_zero, List.set_cons_succ])
    | (refine wp_load_cell (by kernel_rfl) 5 (.tmp 5) rfl ⟨X, 0, none⟩ (.int .u8 kind) rfl (lc_u8 (BA0.out.cell (i := 0) rfl)) ?_; simp only [Act.put, List.setIfInBounds_toArray, List.set_cons_zero, List.set_cons_succ])
    | (refine wp_load_cell (by kernel_rfl) 5 (.tmp 7) rfl ⟨X + 1, 0, none⟩ (.int .u8 kind) rfl (lc_u8 (BB0.out.cell (i := 0) rfl)) ?_; simp only [Act.put, List.setIfInBounds_toArray, List.set_cons_zero, List.set_cons_succ])
    | (refine wp_load_cell (by kernel_rfl) 5 (.tmp 11) rfl ⟨X, 1, none⟩ (.int .u8 mode) rfl (lc_u8 (BA0.out.cell (i := 1) rfl)) ?_; simp only [Act.put, List.setIfInBounds_toArray, List.set_cons_zero, List.set_cons_succ])
    | (refine wp_load_cell (by kernel_rfl) 5 (.tmp 13) rfl ⟨X + 1, 1, none⟩ (.int .u8 mode) rfl (lc_u8 (BB0.out.cell (i := 1) rfl)) ?_; simp only [Act.put, List.setIfInBounds_toArray, List.set_cons_zero, List.set_cons_succ])
    | (refine wp_load_cell (by kernel_rfl) 5 (.tmp 18) rfl ⟨X, 2, none⟩ (.int .u8 chroma) rfl (lc_u8 (BA0.out.cell (i := 2) rfl)) ?_; simp only [Act.put, List.setIfInBounds_toArray, List.set_cons_zero, List.set_cons_succ])
    | (refine wp_load_cell (by kernel_rfl) 5 (.tmp 20) rfl ⟨X + 1, 2, none⟩ (.int .u8 chroma) rfl (lc_u8 (BB0.out.cell (i := 2) rfl)) ?_; simp only [Act.put, List.setIfInBounds_toArray, List.set_cons_zero, List.set_cons_succ])
    | (refine wp_load_cell (by kernel_rfl) 22 (.tmp 25) rfl ⟨X, 3, none⟩ (.agg (prC pr).toArray) rfl BA0.out.pr ?_; simp only [Act.put, List.setIfInBounds_toArray, List.set_cons_zero, List.set_cons_succ])
    | (refine wp_load_cell (by kernel_rfl) 22 (.tmp 27) rfl ⟨X + 1, 3, none⟩ (.agg (prC pr).toArray) rfl BB0.out.pr ?_; simp only [Act.put, List.setIfInBounds_toArray, List.set_cons_zero, List.set_cons_succ])
    | (refine wp_load_cell (by kernel_rfl) 23 (.tmp 32) rfl ⟨X, 19, none⟩ (.agg (sbC sb).toArray) rfl BA0.out.sb ?_; simp only [Act.put, List.setIfInBounds_toArray, List.set_cons_zero, List.set_cons_succ])
    | (refine wp_load_cell (by kernel_rfl) 23 (.tmp 34) rfl ⟨X + 1, 19, none⟩ (.agg (sbC sb).toArray) rfl BB0.out.sb ?_; simp only [Act.put, List.setIfInBounds_toArray, List.set_cons_zero, List.set_cons_succ])
    | (refine wp_load_cell (by kernel_rfl) 5 (.tmp 39) rfl ⟨X, 25, none⟩ (.int .u8 cbp) rfl (lc_u8 (BA0.out.cell (i := 25) rfl)) ?_; simp only [Act.put, List.setIfInBounds_toArray, List.set_cons_zero, List.set_cons_succ])
    | (refine wp_load_cell (by kernel_rfl) 5 (.tmp 41) rfl ⟨X + 1, 25, none⟩ (.int .u8 cbp) rfl (lc_u8 (BB0.out.cell (i := 25) rfl)) ?_; simp only [Act.put, List.setIfInBounds_toArray, List.set_cons_zero, List.set_cons_succ])
    | (refine wp_load_cell (by kernel_rfl) 3 (.tmp 46) rfl ⟨X, 26, none⟩ (.int .i64 qp) rfl (lc_i64 (BA0.out.cell (i := 26) rfl)) ?_; simp only [Act.put, List.setIfInBounds_toArray, List.set_cons_zero, List.set_cons_succ])
    | (refine wp_load_cell (by kernel_rfl) 3 (.tmp 48) rfl ⟨X + 1, 26, none⟩ (.int .i64 qp) rfl (lc_i64 (BB0.out.cell (i := 26) rfl)) ?_; simp only [Act.put, List.setIfInBounds_toArray, List.set_cons_zero, List.set_cons_succ])
    | (refine wp_load_cell (by kernel_rfl) 9 (.tmp 53) rfl ⟨X, 28, none⟩ (.string pcm) rfl (lc_st (BA0.out.cell (i := 28) rfl)) ?_; simp only [Act.put, List.setIfInBounds_toArray, List.set_cons_zero, List.set_cons_succ])
    | (refine wp_load_cell (by kernel_rfl) 9 (.tmp 55) rfl ⟨X + 1, 28, none⟩ (.string pcm) rfl (lc_st (BB0.out.cell (i := 28) rfl)) ?_; simp only [Act.put, List.setIfInBounds_toArray, List.set_cons_zero, List.set_cons_succ])
    | (refine wp_load_cell (by kernel_rfl) 24 (.tmp 60) rfl ⟨X, 23, none⟩ (ra) rfl (lc_is (BA0.out.cell (i := 23) rfl)) ?_; simp only [Act.put, List.setIfInBounds_toArray, List.set_cons_zero, List.set_cons_succ])
    | (refine wp_load_cell (by kernel_rfl) 24 (.tmp 62) rfl ⟨X + 1, 23, none⟩ (rb) rfl (lc_is (BB0.out.cell (i := 23) rfl)) ?_; simp only [Act.put, List.setIfInBounds_toArray, List.set_cons_zero, List.set_cons_succ]))
  refine (EI.out _ (Only.refl [] W2)).mono ?_
  rintro e w3 ⟨rfl, o_⟩
  have O3 := hid (o_)
  have BA3 := hid (BA0.out.only o_ (by simp))
  have BB3 := hid (BB0.out.only o_ (by simp))
  clear o_ BA0 BB0
  go_wp2_with (first
    | (refine wp_load_cell (by kernel_rfl) 25 (.tmp 67) rfl ⟨X, 24, none⟩ (va) rfl (lc_vs (BA3.out.cell (i := 24) rfl)) ?_; simp only [Act.put, List.setIfInBounds_toArray, List.set_cons_zero, List.set_cons_succ])
    | (refine wp_load_cell (by kernel_rfl) 25 (.tmp 69) rfl ⟨X + 1, 24, none⟩ (vb) rfl (lc_vs (BB3.out.cell (i := 24) rfl)) ?_; simp only [Act.put, List.setIfInBounds_toArray, List.set_cons_zero, List.set_cons_succ]))
  refine (EV.out _ O3.out).mono ?_
  rintro e w4 ⟨rfl, o_⟩
  have O4 := hid (O3.out.trans o_)
  have BA4 := hid (BA3.out.only o_ (by simp))
  have BB4 := hid (BB3.out.only o_ (by simp))
  clear o_ BA3 BB3
  go_wp2_with (first
    | (refine wp_load_cell (by kernel_rfl) 26 (.tmp 74) rfl ⟨X, 27, none⟩ (ba) rfl (lc_bs (BA4.out.cell (i := 27) rfl)) ?_; simp only [Act.put, List.setIfInBounds_toArray, List.set_cons_zero, List.set_cons_succ])
    | (refine wp_load_cell (by kernel_rfl) 26 (.tmp 76) rfl ⟨X + 1, 27, none⟩ (bb) rfl (lc_bs (BB4.out.cell (i := 27) rfl)) ?_; simp only [Act.put, List.setIfInBounds_toArray, List.set_cons_zero, List.set_cons_succ]))
  refine (EB.out _ O4.out).mono ?_
  rintro e w5 ⟨rfl, o_⟩
  have O5 := hid (O4.out.trans o_)
  have BA5 := hid (BA4.out.only o_ (by simp))
  have BB5 := hid (BB4.out.only o_ (by simp))
  clear o_ BA4 BB4
  go_wp2_with fail
  go_ret
  exact ⟨rfl, OW.out.trans O5.out⟩
end Go.Proofs.YtpmmnjeomdjakaaDoor

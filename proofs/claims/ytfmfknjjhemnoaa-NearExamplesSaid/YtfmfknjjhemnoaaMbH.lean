/- The kit's EqualMb: the walk. -/
import Derived.Test.YtfmfknjjhemnoaaMbF
namespace Go.Proofs.Ytfmfknjjhemnoaa
open Go.RowKit
set_option linter.unusedVariables false
set_option linter.unusedSimpArgs false

/-- The lists of a macroblock, where they lie. -/
structure MAt (w : World) (x : MV) (rv vv bv : Value) : Prop where
  r : HoldsI .i64 w rv x.refs
  v : HoldsG vcC 2 w vv x.mvds
  b : HoldsB w bv x.blocks
theorem MAt.only0 {w w' : World} {x : MV} {rv vv bv : Value} (h : MAt w x rv vv bv) (k : Only [] w w') : MAt w' x rv vv bv := ⟨h.r.only0 k, h.v.only0 k, h.b.only0 k⟩
/-- Its lists are not too long for a walk. -/
structure MLen (x : MV) : Prop where
  r : x.refs.length ≤ 1000000
  v : x.mvds.length ≤ 1000000
  b : x.blocks.length ≤ 1000000
  i : ∀ l, l ∈ x.blocks → l.length ≤ 1000000
theorem one_load {w : World} {k i : Nat} {T t : TypeId} {A : Array Value} {v : Value} (h : Blk w k T A) (hi : A[i]? = some v) (hs : ∀ w : World, w.cell? ⟨k, i, none⟩ = some v → (Instr.loadAt t (.pointer (some ⟨k, i, none⟩))).run Try.prog w = .ok v w) : (Instr.loadAt t (.pointer (some ⟨k, i, none⟩))).run Try.prog w = .ok v w := hs w (h.cell hi)
theorem lc_u8 {w : World} {p : Addr} {v : Value} (h : w.cell? p = some v) : (Instr.loadAt 5 (.pointer (some p))).run Try.prog w = .ok v w := by
  go_simp
theorem lc_i64 {w : World} {p : Addr} {v : Value} (h : w.cell? p = some v) : (Instr.loadAt 3 (.pointer (some p))).run Try.prog w = .ok v w := by
  go_simp
theorem lc_is {w : World} {p : Addr} {v : Value} (h : w.cell? p = some v) : (Instr.loadAt 36 (.pointer (some p))).run Try.prog w = .ok v w := by
  go_simp
theorem lc_vs {w : World} {p : Addr} {v : Value} (h : w.cell? p = some v) : (Instr.loadAt 37 (.pointer (some p))).run Try.prog w = .ok v w := by
  go_simp
theorem lc_bs {w : World} {p : Addr} {v : Value} (h : w.cell? p = some v) : (Instr.loadAt 38 (.pointer (some p))).run Try.prog w = .ok v w := by
  go_simp
theorem lc_st {w : World} {p : Addr} {v : Value} (h : w.cell? p = some v) : (Instr.loadAt 9 (.pointer (some p))).run Try.prog w = .ok v w := by
  go_simp
set_option maxRecDepth 100000 in
set_option maxHeartbeats 8000000 in
theorem eqmb_same (x : MV) (ra va ba rb vb bb : Value) (w : World) (hx : MAt w x ra va ba) (hy : MAt w x rb vb bb) (lx : MLen x) :
    Calls Try.prog 26 #[mV x ra va ba, mV x rb vb bb] w fun e w' => e = .returned (.bool true) ∧ Only [] w w' := by
  obtain ⟨W1, hW1⟩ : ∃ W, W = w.alloc (.cells (mC x ra va ba).toArray 40) := ⟨_, rfl⟩
  obtain ⟨W2, hW2⟩ : ∃ W, W = W1.alloc (.cells (mC x rb vb bb).toArray 40) := ⟨_, rfl⟩
  obtain ⟨X, hX⟩ : ∃ X, X = w.heap.size := ⟨_, rfl⟩
  have hX1 : X + 1 = W1.heap.size := by rw [hW1, hX]; exact (World.size_alloc _ _).symm
  have o1 : Only [] w W1 := hW1 ▸ ((Only.refl [] w).alloc _)
  have o2 : Only [] W1 W2 := hW2 ▸ ((Only.refl [] W1).alloc _)
  have BA : Blk W2 X 40 (mC x ra va ba).toArray := by
    have := Blk.new w 40 (mC x ra va ba).toArray
    rw [← hW1, ← hX] at this
    exact this.only o2 (by simp)
  have BB : Blk W2 (X + 1) 40 (mC x rb vb bb).toArray := by
    have := Blk.new W1 40 (mC x rb vb bb).toArray
    rwa [← hW2, ← hX1] at this
  have EI := hid (fun w' (o : Only [] W2 w') => by have := eqi_any ra rb x.refs x.refs w' (hx.r.only0 ((o1.trans o2).trans o)) (hy.r.only0 ((o1.trans o2).trans o)) lx.r lx.r; rw [decide_eq_true rfl] at this; exact this)
  have EV := hid (fun w' (o : Only [] W2 w') => by have := eqv_any va vb x.mvds x.mvds w' (hx.v.only0 ((o1.trans o2).trans o)) (hy.v.only0 ((o1.trans o2).trans o)) lx.v lx.v; rw [decide_eq_true rfl] at this; exact this)
  have EB := hid (fun w' (o : Only [] W2 w') => by have := eqb_any ba bb x.blocks x.blocks w' (hx.b.only0 ((o1.trans o2).trans o)) (hy.b.only0 ((o1.trans o2).trans o)) lx.b lx.b lx.i lx.i; rw [decide_eq_true rfl] at this; exact this)
  have BA' := hid BA
  have BB' := hid BB
  clear BA BB
  have HW1 := hid hW1
  have HW2 := hid hW2
  have HX := hid hX
  have HX1 := hid hX1
  have OW := hid (o1.trans o2)
  have E16 := eql_p16 x.pr x.pr W2
  have E4 := eql_s4 x.sb x.sb W2
  rw [decide_eq_true rfl] at E16 E4
  have SE : (x.pcm.toList == x.pcm.toList) = true := beq_self_eq_true _
  clear hX hX1 hW1 hW2 o1 o2 hx hy lx
  unfold mV
  go_enter Try.func26, Try.ntmps26
  go_upto_region 1 with (first
    | (refine wp_box rfl 40 (.tmp 0) rfl (mC x ra va ba).toArray rfl HW1.out HX.out ?_; simp only [Act.put, List.setIfInBounds_toArray, List.set_cons_zero, List.set_cons_succ])
    | (refine wp_box rfl 40 (.tmp 1) rfl (mC x rb vb bb).toArray rfl HW2.out HX1.out ?_; simp only [Act.put, List.setIfInBounds_toArray, List.set_cons_zero, List.set_cons_succ]))
  simp only [List.append_eq, List.cons_append, List.nil_append]
  have E16' := hid E16
  have E4' := hid E4
  clear E16 E4
  go_wp2_with (first
    | (refine wp_bin_eq (by kernel_rfl) .eql 34 (.tmp 26) (.tmp 28) _ rfl _ _ _ rfl rfl (eqg_p16 _ _ _ _ _) E16'.out ?_; simp only [Act.put, List.setIfInBounds_toArray, List.set_cons_zero, List.set_cons_succ])
    | (refine wp_bin_eq (by kernel_rfl) .eql 35 (.tmp 33) (.tmp 35) _ rfl _ _ _ rfl rfl (eqg_s4 _ _ _ _ _) E4'.out ?_; simp only [Act.put, List.setIfInBounds_toArray, List.set_cons_zero, List.set_cons_succ])
    | (refine wp_load_cell (by kernel_rfl) 5 (.tmp 5) rfl ⟨X, 0, none⟩ (.int .u8 x.kind) rfl (lc_u8 (BA'.out.cell (i := 0) rfl)) ?_; simp only [Act.put, List.setIfInBounds_toArray, List.set_cons_zero, List.set_cons_succ])
    | (refine wp_load_cell (by kernel_rfl) 5 (.tmp 7) rfl ⟨X + 1, 0, none⟩ (.int .u8 x.kind) rfl (lc_u8 (BB'.out.cell (i := 0) rfl)) ?_; simp only [Act.put, List.setIfInBounds_toArray, List.set_cons_zero, List.set_cons_succ])
    | (refine wp_load_cell (by kernel_rfl) 5 (.tmp 11) rfl ⟨X, 1, none⟩ (.int .u8 x.mode) rfl (lc_u8 (BA'.out.cell (i := 1) rfl)) ?_; simp only [Act.put, List.setIfInBounds_toArray, List.set_cons_zero, List.set_cons_succ])
    | (refine wp_load_cell (by kernel_rfl) 5 (.tmp 13) rfl ⟨X + 1, 1, none⟩ (.int .u8 x.mode) rfl (lc_u8 (BB'.out.cell (i := 1) rfl)) ?_; simp only [Act.put, List.setIfInBounds_toArray, List.set_cons_zero, List.set_cons_succ])
    | (refine wp_load_cell (by kernel_rfl) 5 (.tmp 18) rfl ⟨X, 2, none⟩ (.int .u8 x.chroma) rfl (lc_u8 (BA'.out.cell (i := 2) rfl)) ?_; simp only [Act.put, List.setIfInBounds_toArray, List.set_cons_zero, List.set_cons_succ])
    | (refine wp_load_cell (by kernel_rfl) 5 (.tmp 20) rfl ⟨X + 1, 2, none⟩ (.int .u8 x.chroma) rfl (lc_u8 (BB'.out.cell (i := 2) rfl)) ?_; simp only [Act.put, List.setIfInBounds_toArray, List.set_cons_zero, List.set_cons_succ])
    | (refine wp_load_cell (by kernel_rfl) 36 (.tmp 39) rfl ⟨X, 23, none⟩ (ra) rfl (lc_is (BA'.out.cell (i := 23) rfl)) ?_; simp only [Act.put, List.setIfInBounds_toArray, List.set_cons_zero, List.set_cons_succ])
    | (refine wp_load_cell (by kernel_rfl) 36 (.tmp 41) rfl ⟨X + 1, 23, none⟩ (rb) rfl (lc_is (BB'.out.cell (i := 23) rfl)) ?_; simp only [Act.put, List.setIfInBounds_toArray, List.set_cons_zero, List.set_cons_succ])
    | (refine wp_load_cell (by kernel_rfl) 34 (.tmp 25) rfl ⟨X, 3, none⟩ (.agg (prC x.pr).toArray) rfl BA'.out.pr ?_; simp only [Act.put, List.setIfInBounds_toArray, List.set_cons_zero, List.set_cons_succ])
    | (refine wp_load_cell (by kernel_rfl) 35 (.tmp 32) rfl ⟨X, 19, none⟩ (.agg (sbC x.sb).toArray) rfl BA'.out.sb ?_; simp only [Act.put, List.setIfInBounds_toArray, List.set_cons_zero, List.set_cons_succ])
    | (refine wp_load_cell (by kernel_rfl) 34 (.tmp 27) rfl ⟨X + 1, 3, none⟩ (.agg (prC x.pr).toArray) rfl BB'.out.pr ?_; simp only [Act.put, List.setIfInBounds_toArray, List.set_cons_zero, List.set_cons_succ])
    | (refine wp_load_cell (by kernel_rfl) 35 (.tmp 34) rfl ⟨X + 1, 19, none⟩ (.agg (sbC x.sb).toArray) rfl BB'.out.sb ?_; simp only [Act.put, List.setIfInBounds_toArray, List.set_cons_zero, List.set_cons_succ]))
  refine (EI.out W2 (Only.refl [] W2)).mono ?_
  rintro e w3 ⟨rfl, o3⟩
  have O3 := hid o3
  have BA3 := hid (BA'.out.only o3 (by simp))
  have BB3 := hid (BB'.out.only o3 (by simp))
  clear o3 E16' E4' BA' BB'
  go_wp2_with (first
    | (refine wp_load_cell (by kernel_rfl) 37 (.tmp 46) rfl ⟨X, 24, none⟩ (va) rfl (lc_vs (BA3.out.cell (i := 24) rfl)) ?_; simp only [Act.put, List.setIfInBounds_toArray, List.set_cons_zero, List.set_cons_succ])
    | (refine wp_load_cell (by kernel_rfl) 37 (.tmp 48) rfl ⟨X + 1, 24, none⟩ (vb) rfl (lc_vs (BB3.out.cell (i := 24) rfl)) ?_; simp only [Act.put, List.setIfInBounds_toArray, List.set_cons_zero, List.set_cons_succ]))
  refine (EV.out w3 O3.out).mono ?_
  rintro e w4 ⟨rfl, o4⟩
  have O4 := hid (O3.out.trans o4)
  have BA4 := hid (BA3.out.only o4 (by simp))
  have BB4 := hid (BB3.out.only o4 (by simp))
  clear o4 BA3 BB3
  go_wp2_with (first
    | (refine wp_load_cell (by kernel_rfl) 5 (.tmp 53) rfl ⟨X, 25, none⟩ (.int .u8 x.cbp) rfl (lc_u8 (BA4.out.cell (i := 25) rfl)) ?_; simp only [Act.put, List.setIfInBounds_toArray, List.set_cons_zero, List.set_cons_succ])
    | (refine wp_load_cell (by kernel_rfl) 5 (.tmp 55) rfl ⟨X + 1, 25, none⟩ (.int .u8 x.cbp) rfl (lc_u8 (BB4.out.cell (i := 25) rfl)) ?_; simp only [Act.put, List.setIfInBounds_toArray, List.set_cons_zero, List.set_cons_succ])
    | (refine wp_load_cell (by kernel_rfl) 3 (.tmp 60) rfl ⟨X, 26, none⟩ (.int .i64 x.qp) rfl (lc_i64 (BA4.out.cell (i := 26) rfl)) ?_; simp only [Act.put, List.setIfInBounds_toArray, List.set_cons_zero, List.set_cons_succ])
    | (refine wp_load_cell (by kernel_rfl) 3 (.tmp 62) rfl ⟨X + 1, 26, none⟩ (.int .i64 x.qp) rfl (lc_i64 (BB4.out.cell (i := 26) rfl)) ?_; simp only [Act.put, List.setIfInBounds_toArray, List.set_cons_zero, List.set_cons_succ])
    | (refine wp_load_cell (by kernel_rfl) 38 (.tmp 67) rfl ⟨X, 27, none⟩ (ba) rfl (lc_bs (BA4.out.cell (i := 27) rfl)) ?_; simp only [Act.put, List.setIfInBounds_toArray, List.set_cons_zero, List.set_cons_succ])
    | (refine wp_load_cell (by kernel_rfl) 38 (.tmp 69) rfl ⟨X + 1, 27, none⟩ (bb) rfl (lc_bs (BB4.out.cell (i := 27) rfl)) ?_; simp only [Act.put, List.setIfInBounds_toArray, List.set_cons_zero, List.set_cons_succ]))
  refine (EB.out w4 O4.out).mono ?_
  rintro e w5 ⟨rfl, o5⟩
  have O5 := hid (O4.out.trans o5)
  have BA5 := hid (BA4.out.only o5 (by simp))
  have BB5 := hid (BB4.out.only o5 (by simp))
  clear o5 BA4 BB4
  go_wp2_with (first
    | (refine wp_load_cell (by kernel_rfl) 9 (.tmp 74) rfl ⟨X, 28, none⟩ (.string x.pcm) rfl (lc_st (BA5.out.cell (i := 28) rfl)) ?_; simp only [Act.put, List.setIfInBounds_toArray, List.set_cons_zero, List.set_cons_succ])
    | (refine wp_load_cell (by kernel_rfl) 9 (.tmp 76) rfl ⟨X + 1, 28, none⟩ (.string x.pcm) rfl (lc_st (BB5.out.cell (i := 28) rfl)) ?_; simp only [Act.put, List.setIfInBounds_toArray, List.set_cons_zero, List.set_cons_succ]))
  go_ret
  exact ⟨rfl, OW.out.trans O5.out⟩
end Go.Proofs.Ytfmfknjjhemnoaa

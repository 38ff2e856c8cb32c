/- The kit's CopyMb. -/
import Derived.Test.YtfmfknjjhemnoaaNrB
import Derived.Test.YtfmfknjjhemnoaaQheld
namespace Go.Proofs.Ytfmfknjjhemnoaa
open Go.RowKit
set_option linter.unusedVariables false
set_option linter.unusedSimpArgs false

/-- A macroblock whose lists are new since w0. -/
structure OwnM (w0 w : World) (x : MV) (rv vv bv : Value) : Prop where
  r : RowI w rv x.refs
  rn : ∀ g, g ∈ ownI rv → w0.heap.size ≤ g
  v : RowG vcC 2 71 w vv x.mvds
  vn : ∀ g, g ∈ ownG vv → w0.heap.size ≤ g
  b : OwnB w0 w bv x.blocks
theorem OwnM.only {w0 w : World} {x : MV} {rv vv bv : Value} (h : OwnM w0 w x rv vv bv) : Only [] w0 w := h.b.only
theorem OwnM.at {w0 w : World} {x : MV} {rv vv bv : Value} (h : OwnM w0 w x rv vv bv) : MAt w x rv vv bv := ⟨h.r.holds, h.v.holds vcC_ok, h.b.holds⟩
theorem OwnM.step {w0 w w' : World} {x : MV} {rv vv bv : Value} (h : OwnM w0 w x rv vv bv) (o : Only [] w w') : OwnM w0 w' x rv vv bv := ⟨h.r.only0 o, h.rn, h.v.only o (by simp), h.vn, h.b.step o⟩
theorem OwnB.reach {S : List Nat} {w0 W w w' : World} {sv : Value} {bs : List (List Int)} (h : OwnB W w sv bs) (o0 : Only [] w0 W) (k : Only S w w') (hS : ∀ g, g ∈ S → w0.heap.size ≤ g ∧ g < W.heap.size) : OwnB w0 w' sv bs := by
  obtain ⟨vs, h1, h2, h3⟩ := h
  have ns : ∀ g, W.heap.size ≤ g → g ∉ S := fun g hg hs => by have := (hS g hs).2; omega
  exact ⟨vs, ⟨h1.row.only k (fun g hg => ns g (h1.new g hg)), fun g hg => Nat.le_trans o0.size (h1.new g hg), (o0.trans h1.only).trans2 k (fun y hy => .inr (hS y hy).1)⟩, h2,
    fun j v x hv hx => ⟨(h3 j v x hv hx).1.only k (fun g hg => ns g ((h3 j v x hv hx).2 g hg).1), fun g hg => ⟨Nat.le_trans o0.size ((h3 j v x hv hx).2 g hg).1, ((h3 j v x hv hx).2 g hg).2⟩⟩⟩
theorem OwnM.reach {S : List Nat} {w0 W w w' : World} {x : MV} {rv vv bv : Value} (h : OwnM W w x rv vv bv) (o0 : Only [] w0 W) (k : Only S w w') (hS : ∀ g, g ∈ S → w0.heap.size ≤ g ∧ g < W.heap.size) : OwnM w0 w' x rv vv bv := by
  have ns : ∀ g, W.heap.size ≤ g → g ∉ S := fun g hg hs => by have := (hS g hs).2; omega
  exact ⟨h.r.only k (fun g hg => ns g (h.rn g hg)), fun g hg => Nat.le_trans o0.size (h.rn g hg), h.v.only k (fun g hg => ns g (h.vn g hg)), fun g hg => Nat.le_trans o0.size (h.vn g hg), h.b.reach o0 k hS⟩
theorem vc_row : RowType Try.prog 37 71 (.agg #[.int .i64 0, .int .i64 0]) 2 16 := ⟨by kernel_rfl, by kernel_rfl, rfl, by omega⟩
theorem MAt.one {w : World} {x : MV} {rv vv bv : Value} (h : MAt w x rv vv bv) : rv.oneCell' = true ∧ vv.oneCell' = true ∧ bv.oneCell' = true := by
  obtain ⟨a, c, rfl, _⟩ := h.r
  obtain ⟨b, d, rfl, _⟩ := h.v
  obtain ⟨vs, h1, _⟩ := h.b
  obtain ⟨e, f, rfl, _⟩ := h1
  exact ⟨rfl, rfl, rfl⟩
def m0 : MV := smallM (0, 0, 0)
set_option maxRecDepth 1000000 in
set_option maxHeartbeats 8000000 in
theorem copymb_any (x : MV) (rv vv bv : Value) (w : World) (hm : MAt w x rv vv bv) (l1 : x.refs.length ≤ 1000000) (l2 : x.mvds.length ≤ 1000000) (l3 : x.blocks.length ≤ 100000) (l4 : ∀ l, l ∈ x.blocks → l.length ≤ 17592186043904) :
    Calls Try.prog 15 #[mV x rv vv bv] w fun e w' => ∃ rv' vv' bv', e = .returned (mV x rv' vv' bv') ∧ OwnM w w' x rv' vv' bv' := by
  obtain ⟨W, hW⟩ : ∃ W, W = (w.alloc (.cells (mC x rv vv bv).toArray 40)).alloc (.cells (mC m0 (.slice none 0 0) (.slice none 0 0) (.slice none 0 0)).toArray 40) := ⟨_, rfl⟩
  have oW : Only [] w W := hW ▸ (((Only.refl [] w).alloc _).alloc _)
  have bX : Blk W w.heap.size 40 (mC x rv vv bv).toArray := hW ▸ ((Blk.new w _ _).only ((Only.refl [] _).alloc _) (by simp))
  have bR : Blk W (w.heap.size + 1) 40 (mC m0 (.slice none 0 0) (.slice none 0 0) (.slice none 0 0)).toArray := by
    have := Blk.new (w.alloc (.cells (mC x rv vv bv).toArray 40)) 40 (mC m0 (.slice none 0 0) (.slice none 0 0) (.slice none 0 0)).toArray
    rw [World.size_alloc] at this
    exact hW ▸ this
  have OW := hid oW
  have BX := hid bX
  have BR := hid bR
  have C1 := hid (fun w' (o : Only [] W w') => copyintsW_any rv x.refs w' (hm.r.only0 (oW.trans o)) (by omega))
  have C3 := hid (fun w' (o : Only [] W w') => copyblks_any bv x.blocks w' (hm.b.only0 (oW.trans o)) l3 l4)
  have H2 := hid (fun w' (o : Only [] W w') => hm.v.only0 (oW.trans o))
  have L2 := hid l2
  obtain ⟨p, hp⟩ : ∃ p, p = w.heap.size := ⟨_, rfl⟩
  have PW := hid (show p < W.heap.size ∧ p + 1 < W.heap.size ∧ p = w.heap.size from ⟨by rw [hp]; exact bX.lt, by rw [hp]; exact bR.lt, hp⟩)
  rw [← hp] at BX BR
  have XC := hid (fun w' (o : Only [] W w') => And.intro ((BX.out.only o (by simp)).cell (i := 23) (v := rv) rfl) (And.intro ((BX.out.only o (by simp)).cell (i := 24) (v := vv) rfl) ((BX.out.only o (by simp)).cell (i := 27) (v := bv) rfl)))
  clear hm l1 l2 l3 l4 oW bX bR
  have HW := hid hW
  clear hW
  unfold mV
  go_enter Try.func15, Try.ntmps15
  go_upto_region 1 with (fail)
  generalize hw : (w.alloc _).alloc _ = W'
  obtain rfl : W = W' := HW.out.trans hw
  rw [← hp]
  clear hw hp HW
  refine wp_region_tail (fun w' => Only [] W w') 10 15 (by kernel_rfl) rfl (Only.refl [] W).drew (fun hS => ?_)
  refine wpAnyT_take 0 (v := ?va0) rfl (by kernel_rfl) (fun _ _ _ h => h) (Or.inl ⟨by rfl, ?ya0⟩) hS ?ra0
  case ya0 =>
    intro w hSw
    obtain ⟨hc1, hc2, hc3⟩ := XC.out w hSw
    go_simp
    (try with_reducible rfl)
  (try simp only [Act.put, List.setIfInBounds_toArray, List.set_cons_zero, List.set_cons_succ])
  refine wpAnyT_take 1 (v := ?va1) rfl (by kernel_rfl) (fun _ _ _ h => h) (Or.inl ⟨by rfl, ?ya1⟩) hS ?ra1
  case ya1 =>
    intro w hSw
    obtain ⟨hc1, hc2, hc3⟩ := XC.out w hSw
    go_simp
    (try with_reducible rfl)
  (try simp only [Act.put, List.setIfInBounds_toArray, List.set_cons_zero, List.set_cons_succ])
  refine wpAnyT_take 3 (v := ?va3) rfl (by kernel_rfl) (fun _ _ _ h => h) (Or.inl ⟨by rfl, ?ya3⟩) hS ?ra3
  case ya3 =>
    intro w hSw
    obtain ⟨hc1, hc2, hc3⟩ := XC.out w hSw
    go_simp
    (try with_reducible rfl)
  (try simp only [Act.put, List.setIfInBounds_toArray, List.set_cons_zero, List.set_cons_succ])
  refine wpAnyT_take 4 (v := ?va4) rfl (by kernel_rfl) (fun _ _ _ h => h) (Or.inl ⟨by rfl, ?ya4⟩) hS ?ra4
  case ya4 =>
    intro w hSw
    obtain ⟨hc1, hc2, hc3⟩ := XC.out w hSw
    go_simp
    (try with_reducible rfl)
  (try simp only [Act.put, List.setIfInBounds_toArray, List.set_cons_zero, List.set_cons_succ])
  refine wpAnyT_take 6 (v := ?va6) rfl (by kernel_rfl) (fun _ _ _ h => h) (Or.inl ⟨by rfl, ?ya6⟩) hS ?ra6
  case ya6 =>
    intro w hSw
    obtain ⟨hc1, hc2, hc3⟩ := XC.out w hSw
    go_simp
    (try with_reducible rfl)
  (try simp only [Act.put, List.setIfInBounds_toArray, List.set_cons_zero, List.set_cons_succ])
  refine wpAnyT_take 7 (v := ?va7) rfl (by kernel_rfl) (fun _ _ _ h => h) (Or.inl ⟨by rfl, ?ya7⟩) hS ?ra7
  case ya7 =>
    intro w hSw
    obtain ⟨hc1, hc2, hc3⟩ := XC.out w hSw
    go_simp
    (try with_reducible rfl)
  (try simp only [Act.put, List.setIfInBounds_toArray, List.set_cons_zero, List.set_cons_succ])
  refine wpAnyT_call 2 rfl (by kernel_rfl) (fun K hK => ?_)
  go_simp
  refine (C1.out _ hS).mono ?_
  rintro e w3 ⟨fr, rfl, r1, n1, o3⟩
  have hS3 : Only [] W w3 := hS.trans o3
  refine hK.out _ _ hS3 ?_
  clear hK K
  (try simp only [Act.put, List.setIfInBounds_toArray, List.set_cons_zero, List.set_cons_succ])
  refine wpAnyT_take 9 (v := ?va9) rfl (by kernel_rfl) (fun _ _ _ h => h) (Or.inl ⟨by rfl, ?ya9⟩) hS3 ?ra9
  case ya9 =>
    intro w hSw
    obtain ⟨hc1, hc2, hc3⟩ := XC.out w hSw
    go_simp
    (try with_reducible rfl)
  (try simp only [Act.put, List.setIfInBounds_toArray, List.set_cons_zero, List.set_cons_succ])
  obtain ⟨fv, w4, hrun2, r2, o4', n2⟩ := append_rowsG vcC_ok vc_row (.slice none 0 0) vv [] x.mvds (RowG.nil w3) (H2.out w3 hS3) (by have := L2.out; simpa using this)
  have o4 : Only [] w3 w4 := o4'.mono (fun _ _ h => by simp [ownG, Value.ownBlock] at h)
  rw [List.nil_append] at r2
  have hS4 : Only [] W w4 := hS3.trans o4
  refine wpAnyT_call 5 rfl (by kernel_rfl) (fun K hK => ?_)
  refine step_append_eqM rfl (.const (.slice none 0 0)) (.tmp 7) _ _ rfl (.slice none 0 0) vv rfl rfl fv w4 hrun2 ?_
  refine hK.out _ _ hS4 ?_
  clear hK K
  (try simp only [Act.put, List.setIfInBounds_toArray, List.set_cons_zero, List.set_cons_succ])
  refine wpAnyT_call 8 rfl (by kernel_rfl) (fun K hK => ?_)
  go_simp
  refine (C3.out _ hS4).mono ?_
  rintro e w5 ⟨fb, rfl, r3⟩
  have hS5 : Only [] W w5 := hS4.trans r3.only
  refine hK.out _ _ hS5 ?_
  clear hK K
  (try simp only [Act.put, List.setIfInBounds_toArray, List.set_cons_zero, List.set_cons_succ])
  obtain ⟨a1, k1, rfl⟩ := r1.form
  obtain ⟨a2, k2, e2, _⟩ := r2.holds vcC_ok
  subst e2
  obtain ⟨a3, k3, rfl⟩ : ∃ a c, fb = .slice a x.blocks.length c := by
    obtain ⟨us, h1, h2, _⟩ := id r3
    obtain ⟨a, c, e, _⟩ := h1.row.holds slC_ok
    exact ⟨a, c, by rw [e, h2]⟩
  have R1 := hid (show RowI w5 (.slice a1 x.refs.length k1) x.refs from (r1.only0 o4).only0 r3.only)
  have R2 := hid (show RowG vcC 2 71 w5 (.slice a2 x.mvds.length k2) x.mvds from r2.only r3.only (by simp))
  have R3 := hid (show OwnB W w5 (.slice a3 x.blocks.length k3) x.blocks from r3.base hS4)
  have N1 := hid (fun g h => (Nat.le_trans hS.size (n1 g h) : W.heap.size ≤ g))
  have N2 := hid (fun g h => ((n2 g h).elim (fun q => by simp [ownG, Value.ownBlock] at q) (fun q => Nat.le_trans hS3.size q) : W.heap.size ≤ g))
  refine wpAnyT_tail _ rfl (by kernel_rfl) ?_
  simp only [List.drop_succ_cons, List.drop_zero]
  have b5 := BX.out.only hS5 (by simp)
  have q5 := BR.out.only hS5 (by simp)
  have x23 := b5.cell (i := 23) (v := rv) rfl
  have y23 := b5.frozen 23
  have x24 := b5.cell (i := 24) (v := vv) rfl
  have y24 := b5.frozen 24
  have x27 := b5.cell (i := 27) (v := bv) rfl
  have y27 := b5.frozen 27
  have O6 : Only [p] w5 (((w5.setCell ⟨p, 23, none⟩ (.slice a1 x.refs.length k1)).setCell ⟨p, 24, none⟩ (.slice a2 x.mvds.length k2)).setCell ⟨p, 27, none⟩ (.slice a3 x.blocks.length k3)) := (((Only.refl _ _).setCell (.inl (by simp)) _).setCell (.inl (by simp)) _).setCell (.inl (by simp)) _
  have b6 : Blk (((w5.setCell ⟨p, 23, none⟩ (.slice a1 x.refs.length k1)).setCell ⟨p, 24, none⟩ (.slice a2 x.mvds.length k2)).setCell ⟨p, 27, none⟩ (.slice a3 x.blocks.length k3)) p 40 (mC x (.slice a1 x.refs.length k1) (.slice a2 x.mvds.length k2) (.slice a3 x.blocks.length k3)).toArray := ((b5.set 23 _).set 24 _).set 27 _
  have q6 := q5.only O6 (by simp)
  have S5 := hid hS5
  clear hS hS3 hS4 hS5 r1 r2 r3 n1 n2 o3 o4 o4' b5 q5 hrun2
  go_upto_region 2 with (fail)
  obtain ⟨w6, hw6⟩ : ∃ w6, w6 = (((w5.setCell ⟨p, 23, none⟩ (.slice a1 x.refs.length k1)).setCell ⟨p, 24, none⟩ (.slice a2 x.mvds.length k2)).setCell ⟨p, 27, none⟩ (.slice a3 x.blocks.length k3)) := ⟨_, rfl⟩
  rw [← hw6] at O6 b6 q6 ⊢
  clear hw6 x23 y23 x24 y24 x27 y27
  go_wp2_with (first
    | (refine load_atA rfl 40 (.tmp 1) rfl ⟨p, 0, none⟩ (mC x (.slice a1 x.refs.length k1) (.slice a2 x.mvds.length k2) (.slice a3 x.blocks.length k3)) rfl b6.mb ?_; simp only [Act.put, List.setIfInBounds_toArray, List.set_cons_zero, List.set_cons_succ])
    | (refine store_blk rfl 40 _ _ rfl (p + 1) 0 _ _ (mC x (.slice a1 x.refs.length k1) (.slice a2 x.mvds.length k2) (.slice a3 x.blocks.length k3)) rfl rfl (info_mb' _ _ _ _) q6 (by simp [mC]) (one_mC _ rfl rfl rfl) ?_; intro w7 hB7 hO7))
  rw [setsA_full (by simp [mC])] at hB7
  have O7 : Only [p, p + 1] w5 w7 := (O6.mono (by intro y _ hy; simp at hy ⊢; exact .inl hy)).trans (hO7.mono (by intro y _ hy; simp at hy ⊢; exact .inr hy))
  refine bodyPost_ret (v := mV x (.slice a1 x.refs.length k1) (.slice a2 x.mvds.length k2) (.slice a3 x.blocks.length k3)) (res_c rfl rfl (lv_mb hB7)) rfl ⟨_, _, _, rfl, ?_⟩
  exact OwnM.reach (W := W) ⟨R1.out, N1.out, R2.out, N2.out, R3.out⟩ OW.out O7 (fun g hg => by have := PW.out; simp at hg; omega)
end Go.Proofs.Ytfmfknjjhemnoaa

/- The laws' Few: macroblocks whose lists are cut. -/
import Derived.Test.YtpmmnjeomdjakaaDoorMcD
import Derived.StillTailTactics
namespace Go.Proofs.YtpmmnjeomdjakaaDoor
open Go.RowKit
set_option linter.unusedVariables false
set_option linter.unusedSimpArgs false

theorem run_min (t1 t2 ty : TypeId) (k : IntKind) (a b n : Int) (w : World) (P : Program) (h : min a b = n) : (Builtin.min_ #[t1, t2] ty #[.int k a, .int k b]).run P w = .ok (.int k n) w := by
  subst h
  simp [Builtin.min_, Builtin.min2]
  by_cases h : a ≤ b
  · rw [Int.min_eq_left h]
    simp [h]
    try omega
  · rw [Int.min_eq_right (by omega)]
    simp [h]
    try omega
theorem wp_min_eq {P : Program} {w : World} {ops : Array Oper} {rest : List Oper} {o : Oper} {a : Act} {Q : Exit → Act → World → Prop} (hg : Region.wanted o (yielded ops a.tmps) = true) (s x : Operand) (t1 t2 : TypeId)
    (hop : o.op = Op.call { callee := Callee.builtin Builtin.min, args := #[s, x], argTypes := #[t1, t2] }) (k : IntKind) (u v n : Int) (hs : a.eval s = .int k u) (hx : a.eval x = .int k v) (hm : min u v = n)
    (h : wpList P ops Q rest (a.put o.dst (.int k n)) w) : wpList P ops Q (o :: rest) a w := by
  have hrun := run_min t1 t2 o.type k u v n w P hm
  refine wpList_step fun K hK => ?_
  rw [if_pos hg]
  unfold Oper.wp
  simp [execOp, hop, resolve, invoke, builtin, hs, hx, hrun, Result.andThen]
  exact hK _ _ h
def fewM (x : MV) : MV := { x with refs := x.refs.take 6, mvds := x.mvds.take 20, blocks := (x.blocks.take 30).map (fun l => l.take 20), pcm := x.pcm.extract 0 (min x.pcm.size 400) }
theorem take_min {α : Type} (l : List α) (n k : Nat) (hn : n = min l.length k) : l.take n = l.take k := by
  subst hn
  rw [Nat.min_comm, ← List.take_take, List.take_length]
theorem HoldsI.part {q : IntKind} {w : World} {a : Option Addr} {c : Nat} {l : List Int} (h : HoldsI q w (.slice a l.length c) l) (k : Nat) (hk : k ≤ l.length) : HoldsI q w (.slice a k c) (l.take k) := by
  obtain ⟨a2, c2, e, h1, h2, h3⟩ := h
  cases e
  refine ⟨a, c, by rw [List.length_take, Nat.min_eq_left hk], by rw [List.length_take]; omega, h2, ?_⟩
  rcases h3 with h3 | ⟨b, o, rfl, hc⟩
  · exact .inl (by rw [h3]; simp)
  · refine .inr ⟨b, o, rfl, fun j x hj => hc j x ?_⟩
    obtain ⟨hlt, hv⟩ := List.getElem?_eq_some_iff.1 hj
    rw [List.length_take] at hlt
    rw [← hj, List.getElem?_take, if_pos (by omega)]
theorem HoldsB.part {w : World} {a : Option Addr} {c : Nat} {l : List (List Int)} (h : HoldsB w (.slice a l.length c) l) (k : Nat) (hk : k ≤ l.length) : HoldsB w (.slice a k c) (l.take k) := by
  obtain ⟨vs, h1, h2, h3⟩ := h
  rw [← h2] at h1
  refine ⟨vs.take k, h1.part k (by omega), by rw [List.length_take, List.length_take, h2], fun j v x hv hx => ?_⟩
  have hj : j < k := by have := (List.getElem?_eq_some_iff.1 hx).1; rw [List.length_take] at this; omega
  rw [List.getElem?_take, if_pos hj] at hv hx
  exact h3 j v x hv hx
/-- What lies in old blocks is as it was. -/
theorem HoldsG.old {α : Type} {C : α → List Value} {n : Nat} {S : List Nat} {w w' : World} {sv : Value} {l : List α} (h : HoldsG C n w sv l) (k : Only S w w') (hS : ∀ g, g ∈ S → w.heap.size ≤ g) : HoldsG C n w' sv l := by
  obtain ⟨a, c, rfl, h1, h2, h3⟩ := h
  refine ⟨a, c, rfl, h1, h2, ?_⟩
  rcases h3 with h3 | ⟨b, o, rfl, hc⟩
  · exact .inl h3
  · exact .inr ⟨b, o, rfl, fun j x hj i v hv => k.cell (hc j x hj i v hv) (fun hs => by have h1 := World.block_lt_of_cell? _ _ (hc j x hj i v hv); have h2 := hS _ hs; exact absurd h1 (Nat.not_lt.2 h2))⟩
theorem HoldsI.old {q : IntKind} {S : List Nat} {w w' : World} {sv : Value} {l : List Int} (h : HoldsI q w sv l) (k : Only S w w') (hS : ∀ g, g ∈ S → w.heap.size ≤ g) : HoldsI q w' sv l := by
  obtain ⟨a, c, rfl, h1, h2, h3⟩ := h
  refine ⟨a, c, rfl, h1, h2, ?_⟩
  rcases h3 with h3 | ⟨b, o, rfl, hc⟩
  · exact .inl h3
  · exact .inr ⟨b, o, rfl, fun j x hj => k.cell (hc j x hj) (fun hs => by have h1 := World.block_lt_of_cell? _ _ (hc j x hj); have h2 := hS _ hs; exact absurd h1 (Nat.not_lt.2 h2))⟩
theorem HoldsB.old {S : List Nat} {w w' : World} {sv : Value} {l : List (List Int)} (h : HoldsB w sv l) (k : Only S w w') (hS : ∀ g, g ∈ S → w.heap.size ≤ g) : HoldsB w' sv l := by
  obtain ⟨vs, a, b, c⟩ := h
  exact ⟨vs, a.old k hS, b, fun j v x hv hx => (c j v x hv hx).old k hS⟩
theorem MAt.old {S : List Nat} {w w' : World} {x : MV} {rv vv bv : Value} (h : MAt w x rv vv bv) (k : Only S w w') (hS : ∀ g, g ∈ S → w.heap.size ≤ g) : MAt w' x rv vv bv := ⟨h.r.old k hS, h.v.old k hS, h.b.old k hS⟩
/-- One slice of a row of slices is replaced. -/
theorem RowG.set1 {E : TypeId} {w : World} {g n c : Nat} {vs : List SlV} (h : RowG slC 1 E w (.slice (some ⟨g, 0, none⟩) n c) vs) (i : Nat) (v : SlV) (hi : i < vs.length) : RowG slC 1 E (w.setCell ⟨g, i, none⟩ v.sl) (.slice (some ⟨g, 0, none⟩) n c) (vs.set i v) := by
  have hflat : ∀ us : List SlV, cellsG slC us = us.map SlV.sl := fun us => by
    induction us with
    | nil => rfl
    | cons u us ih => rw [cellsG, ih]; rfl
  refine ⟨by rw [cellsG_length slC_ok], ?_⟩
  rcases h.2 with ⟨e, _⟩ | ⟨g', cap, cur, e, hb, hh, h1, h2, h3, h4⟩
  · cases e
  · cases e
    obtain ⟨hlt, hk⟩ := Array.getElem?_eq_some_iff.1 hh
    refine .inr ⟨g, c, cur.setIfInBounds i v.sl, by rw [List.length_set], hb, ?_, by rw [List.length_set]; exact h1, h2, by simpa using h3, ?_⟩
    · show (w.heap.modify g _)[g]? = _
      rw [Array.getElem?_eq_getElem (by rw [Array.size_modify]; exact hlt), Array.getElem_modify_self, hk]
      rfl
    · rw [hflat] at h4 ⊢
      rw [List.length_set, Array.toList_setIfInBounds, List.map_set, ← h4, List.take_set]
set_option maxRecDepth 1000000 in
set_option maxHeartbeats 8000000 in
theorem few13_any (x : MV) (rv vv bv : Value) (w : World) (hm : MAt w x rv vv bv) (l4 : ∀ l, l ∈ x.blocks → l.length ≤ 17592186043904) (lp : x.pcm.size ≤ maxLen) :
    Calls Tryd.prog 9 #[mV x rv vv bv] w fun e w' => ∃ rv' vv' bv', e = .returned (mV (fewM x) rv' vv' bv') ∧ (∀ S w'', Only S w' w'' → (∀ g, g ∈ S → g < w.heap.size) → MAt w'' (fewM x) rv' vv' bv') ∧ Only [] w w' := by
  obtain ⟨ra, rc, hrv, rb1, rb2, _⟩ := id hm.r
  obtain ⟨va, vc, hvv, vb1, vb2, _⟩ := id hm.v
  obtain ⟨ba, bc, hbv, bb1, bb2⟩ : ∃ a c, bv = .slice a x.blocks.length c ∧ x.blocks.length ≤ c ∧ c ≤ maxLen := by
    obtain ⟨us, h1, h2, _⟩ := id hm.b
    obtain ⟨a, c, e, h3, h4, _⟩ := h1
    exact ⟨a, c, by rw [e, h2], by omega, h4⟩
  subst hrv hvv hbv
  obtain ⟨n1, hn1⟩ : ∃ n, n = min x.refs.length 6 := ⟨_, rfl⟩
  obtain ⟨n2, hn2⟩ : ∃ n, n = min x.mvds.length 20 := ⟨_, rfl⟩
  obtain ⟨n3, hn3⟩ : ∃ n, n = min x.blocks.length 30 := ⟨_, rfl⟩
  have P1 := hm.r.part n1 (by omega)
  have P2 := hm.v.part n2 (by omega)
  have P3 := hm.b.part n3 (by omega)
  rw [take_min _ _ _ hn1] at P1
  rw [take_min _ _ _ hn2] at P2
  rw [take_min _ _ _ hn3] at P3
  have m1 : min (x.refs.length : Int) 6 = (n1 : Int) := by omega
  have m2 : min (x.mvds.length : Int) 20 = (n2 : Int) := by omega
  have m3 : min (x.blocks.length : Int) 30 = (n3 : Int) := by omega
  have d1 : (n1 : Int) ≤ (rc : Int) := by omega
  have d2 : (n2 : Int) ≤ (vc : Int) := by omega
  have d3 : (n3 : Int) ≤ (bc : Int) := by omega
  have z1 : (0 : Int) ≤ (n1 : Int) := by omega
  have z2 : (0 : Int) ≤ (n2 : Int) := by omega
  have z3 : (0 : Int) ≤ (n3 : Int) := by omega
  obtain ⟨W, hW⟩ : ∃ W, W = (w.alloc (.cells (mC x (.slice ra x.refs.length rc) (.slice va x.mvds.length vc) (.slice ba x.blocks.length bc)).toArray 28)).alloc (.cells (mC m0 (.slice none 0 0) (.slice none 0 0) (.slice none 0 0)).toArray 28) := ⟨_, rfl⟩
  have oW : Only [] w W := hW ▸ (((Only.refl [] w).alloc _).alloc _)
  have bX : Blk W w.heap.size 28 (mC x (.slice ra x.refs.length rc) (.slice va x.mvds.length vc) (.slice ba x.blocks.length bc)).toArray := hW ▸ ((Blk.new w _ _).only ((Only.refl [] _).alloc _) (by simp))
  have bR : Blk W (w.heap.size + 1) 28 (mC m0 (.slice none 0 0) (.slice none 0 0) (.slice none 0 0)).toArray := by
    have := Blk.new (w.alloc (.cells (mC x (.slice ra x.refs.length rc) (.slice va x.mvds.length vc) (.slice ba x.blocks.length bc)).toArray 28)) 28 (mC m0 (.slice none 0 0) (.slice none 0 0) (.slice none 0 0)).toArray
    rw [World.size_alloc] at this
    exact hW ▸ this
  have OW := hid oW
  have BX := hid bX
  have BR := hid bR
  obtain ⟨p, hp⟩ : ∃ p, p = w.heap.size := ⟨_, rfl⟩
  have PW := hid (show p < W.heap.size ∧ p + 1 < W.heap.size ∧ p = w.heap.size from ⟨by rw [hp]; exact bX.lt, by rw [hp]; exact bR.lt, hp⟩)
  rw [← hp] at BX BR
  obtain ⟨T1, hT1⟩ : ∃ t, t = x.refs.take 6 := ⟨_, rfl⟩
  obtain ⟨T2, hT2⟩ : ∃ t, t = x.mvds.take 20 := ⟨_, rfl⟩
  obtain ⟨T3, hT3⟩ : ∃ t, t = x.blocks.take 30 := ⟨_, rfl⟩
  rw [← hT1] at P1
  rw [← hT2] at P2
  rw [← hT3] at P3
  have FM := hid (show fewM x = { x with refs := T1, mvds := T2, blocks := T3.map (fun l => l.take 20), pcm := x.pcm.extract 0 (min x.pcm.size 400) } from by rw [hT1, hT2, hT3]; rfl)
  have LT := hid (show T1.length ≤ 6 ∧ T2.length ≤ 20 ∧ T3.length ≤ 30 ∧ (∀ l, l ∈ T3 → l.length ≤ 17592186043904) from ⟨by rw [hT1]; exact List.length_take_le _ _, by rw [hT2]; exact List.length_take_le _ _, by rw [hT3]; exact List.length_take_le _ _, fun l hl => l4 l (by rw [hT3] at hl; exact List.mem_of_mem_take hl)⟩)
  have ns : ∀ g, g ∈ [p] → w.heap.size ≤ g := fun g hg => by have := PW.out; simp at hg; omega
  have K1 := hid (P1.only0 OW.out)
  have K2 := hid (fun w' (o : Only [p] w w') => P2.old o ns)
  have K3 := hid (fun w' (o : Only [p] w w') => P3.old o ns)
  have HW := hid hW
  have N1 := hid hn1
  have N2 := hid hn2
  have N3 := hid hn3
  clear hm l4 oW bX bR hW P1 P2 P3 rb1 rb2 vb1 vb2 bb1 bb2 hn1 hn2 hn3 hT1 hT2 hT3 ns
  unfold mV
  go_enter Tryd.func9, Tryd.ntmps9
  go_upto_region 1 with (fail)
  generalize hw : (w.alloc _).alloc _ = W'
  obtain rfl : W = W' := HW.out.trans hw
  rw [← hp]
  clear hw hp HW
  have x23 := BX.out.cell (i := 23) (v := .slice ra x.refs.length rc) rfl
  go_wp2_with (refine wp_min_eq (by kernel_rfl) (.tmp 8) _ _ _ rfl .i64 _ _ n1 rfl rfl m1 ?_; simp only [Act.put, List.setIfInBounds_toArray, List.set_cons_zero, List.set_cons_succ])
  refine (copyintsW_any (.slice ra n1 rc) T1 W K1.out (by have := LT.out.1; omega)).mono ?_
  rintro e w3 ⟨fr, rfl, r1, q1, o3⟩
  obtain ⟨a1, k1, rfl⟩ := r1.form
  have b3 := BX.out.only o3 (by simp)
  have x23 := b3.cell (i := 23) (v := .slice ra x.refs.length rc) rfl
  have y23 := b3.frozen 23
  have o4 : Only [p] w3 (w3.setCell ⟨p, 23, none⟩ (.slice a1 T1.length k1)) := (Only.refl _ _).setCell (.inl (by simp)) _
  have b4 : Blk (w3.setCell ⟨p, 23, none⟩ (.slice a1 T1.length k1)) p 28 (mC { x with refs := T1 } (.slice a1 T1.length k1) (.slice va x.mvds.length vc) (.slice ba x.blocks.length bc)).toArray := b3.set 23 _
  have R1 := hid (show RowI (w3.setCell ⟨p, 23, none⟩ (.slice a1 T1.length k1)) (.slice a1 T1.length k1) T1 from r1.only o4 (fun g hg => by have := q1 g hg; have := PW.out; simp; omega))
  have Q1 := hid q1
  have O4 := hid (show Only [p] W (w3.setCell ⟨p, 23, none⟩ (.slice a1 T1.length k1)) from (o3.mono (fun _ _ h => by cases h)).trans o4)
  have B4 := hid b4
  clear r1 q1 o3 o4 b3 b4
  go_upto_region 2 with fail
  generalize w3.setCell _ _ = w4 at *
  clear x23 y23
  have x24 := B4.out.cell (i := 24) (v := .slice va x.mvds.length vc) rfl
  obtain ⟨fv, w5, hrun2, r2, o5', q2⟩ := append_rowsG vcC_ok vc_row (.slice none 0 0) (.slice va n2 vc) [] T2 (RowG.nil w4) (K2.out w4 ((OW.out.mono (fun _ _ h => by cases h)).trans O4.out)) (by have := LT.out.2.1; simp; omega)
  have RUN2 := hid hrun2
  have o5 : Only [] w4 w5 := o5'.mono (fun _ _ h => by simp [ownG, Value.ownBlock] at h)
  rw [List.nil_append] at r2
  obtain ⟨a2, k2, e2, _⟩ := r2.holds vcC_ok
  subst e2
  have b5 := B4.out.only o5 (by simp)
  have x24 := b5.cell (i := 24) (v := .slice va x.mvds.length vc) rfl
  have y24 := b5.frozen 24
  have o6 : Only [p] w5 (w5.setCell ⟨p, 24, none⟩ (.slice a2 T2.length k2)) := (Only.refl _ _).setCell (.inl (by simp)) _
  have b6 : Blk (w5.setCell ⟨p, 24, none⟩ (.slice a2 T2.length k2)) p 28 (mC { x with refs := T1, mvds := T2 } (.slice a1 T1.length k1) (.slice a2 T2.length k2) (.slice ba x.blocks.length bc)).toArray := b5.set 24 _
  have Q2 := hid (show ∀ g, g ∈ ownG (.slice a2 T2.length k2) → W.heap.size ≤ g from fun g hg => (q2 g hg).elim (fun h => by simp [ownG, Value.ownBlock] at h) (fun h => Nat.le_trans O4.out.size h))
  have R2 := hid (show RowG vcC 2 36 (w5.setCell ⟨p, 24, none⟩ (.slice a2 T2.length k2)) (.slice a2 T2.length k2) T2 from r2.only o6 (fun g hg => by have := Q2.out g hg; have := PW.out; simp; omega))
  have R1' := hid (show RowI (w5.setCell ⟨p, 24, none⟩ (.slice a2 T2.length k2)) (.slice a1 T1.length k1) T1 from (R1.out.only0 o5).only o6 (fun g hg => by have := Q1.out g hg; have := PW.out; simp; omega))
  have O6 := hid (show Only [p] W (w5.setCell ⟨p, 24, none⟩ (.slice a2 T2.length k2)) from (O4.out.trans (o5.mono (fun _ _ h => by cases h))).trans o6)
  have B6 := hid b6
  clear r2 q2 o5 o5' o6 b5 b6 hrun2 R1 O4 B4
  go_upto_region 3 with (first
    | (refine wp_min_eq (by kernel_rfl) (.tmp 17) _ _ _ rfl .i64 _ _ n2 rfl rfl m2 ?_; simp only [Act.put, List.setIfInBounds_toArray, List.set_cons_zero, List.set_cons_succ])
    | (at_builtin; refine wp_append_eq (by kernel_rfl) (.const (.slice none 0 0)) (.tmp 19) _ _ rfl (.slice none 0 0) _ _ w5 rfl rfl RUN2.out ?_; simp only [Act.put, List.setIfInBounds_toArray, List.set_cons_zero, List.set_cons_succ]))
  generalize w5.setCell _ _ = w6 at *
  clear x24 y24
  have x27 := B6.out.cell (i := 27) (v := .slice ba x.blocks.length bc) rfl
  go_wp2_with (refine wp_min_eq (by kernel_rfl) (.tmp 26) _ _ _ rfl .i64 _ _ n3 rfl rfl m3 ?_; simp only [Act.put, List.setIfInBounds_toArray, List.set_cons_zero, List.set_cons_succ])
  refine (copyblks_any (.slice ba n3 bc) T3 w6 (K3.out w6 ((OW.out.mono (fun _ _ h => by cases h)).trans O6.out)) (by have := LT.out.2.2.1; omega) LT.out.2.2.2).mono ?_
  rintro e w7 ⟨fb, rfl, r3⟩
  obtain ⟨us, c3, l3, h3⟩ := r3
  obtain ⟨a3, k3, e3, _⟩ := c3.row.holds slC_ok
  subst e3
  obtain ⟨N, hN⟩ : ∃ n, n = us.length := ⟨_, rfl⟩
  have NT := hid (show N = T3.length ∧ N ≤ 30 from by have := LT.out.2.2.1; omega)
  rw [← hN] at c3 h3 ⊢
  clear hN
  have Nb : (N : Int) ≤ 30 := by have := NT.out; omega
  have b7 := B6.out.only c3.only (by simp)
  have x27 := b7.cell (i := 27) (v := .slice ba x.blocks.length bc) rfl
  have y27 := b7.frozen 27
  have o8 : Only [p] w7 (w7.setCell ⟨p, 27, none⟩ (.slice a3 N k3)) := (Only.refl _ _).setCell (.inl (by simp)) _
  have b8 : Blk (w7.setCell ⟨p, 27, none⟩ (.slice a3 N k3)) p 28 (mC x (.slice a1 T1.length k1) (.slice a2 T2.length k2) (.slice a3 N k3)).toArray := b7.set 27 _
  have pl : ∀ g, w6.heap.size ≤ g → g ∉ [p] := fun g hg => by have := O6.out.size; have := PW.out; simp; omega
  have G3 := hid (show ∀ g, g ∈ ownG (.slice a3 N k3) → W.heap.size ≤ g from fun g hg => Nat.le_trans O6.out.size (c3.new g hg))
  have DR := hid (show ∀ g, g ∈ ownI (.slice a1 T1.length k1) → g ∉ ownG (.slice a3 N k3) from fun g hg h => by have h1 := R1'.out.lt g hg; have h2 := c3.new g h; omega)
  have DV := hid (show ∀ g, g ∈ ownG (.slice a2 T2.length k2) → g ∉ ownG (.slice a3 N k3) from fun g hg h => by have h1 := R2.out.lt g hg; have h2 := c3.new g h; omega)
  have O8 := hid (show Only [p] W (w7.setCell ⟨p, 27, none⟩ (.slice a3 N k3)) from (O6.out.trans (c3.only.mono (fun _ _ h => by cases h))).trans o8)
  have R8 := hid (show RowI (w7.setCell ⟨p, 27, none⟩ (.slice a3 N k3)) (.slice a1 T1.length k1) T1 from (R1'.out.only0 c3.only).only o8 (fun g hg => by have := Q1.out g hg; have := PW.out; simp; omega))
  have V8 := hid (show RowG vcC 2 36 (w7.setCell ⟨p, 27, none⟩ (.slice a3 N k3)) (.slice a2 T2.length k2) T2 from (R2.out.only c3.only (by simp)).only o8 (fun g hg => by have := Q2.out g hg; have := PW.out; simp; omega))
  have U8 := hid (show us.length = N ∧ RowG slC 1 24 (w7.setCell ⟨p, 27, none⟩ (.slice a3 N k3)) (.slice a3 N k3) us ∧ ∀ (j : Nat) (v : SlV) (y : List Int), us[j]? = some v → T3[j]? = some y → HoldsI .i64 (w7.setCell ⟨p, 27, none⟩ (.slice a3 N k3)) v.sl y ∧ ∀ a : Addr, v.1 = some a → a.block ∉ ownG (.slice a3 N k3) ∧ W.heap.size ≤ a.block from
    ⟨by have := NT.out; omega, c3.row.only o8 (fun g hg => pl g (c3.new g hg)), fun j v y hv hy => ⟨((h3 j v y hv hy).1.only o8 (fun g hg => pl g ((h3 j v y hv hy).2 g hg).1)).holds, fun a ha => ⟨((h3 j v y hv hy).2 a.block (by simp [ownI, SlV.sl, ha, Value.ownBlock])).2, Nat.le_trans O6.out.size ((h3 j v y hv hy).2 a.block (by simp [ownI, SlV.sl, ha, Value.ownBlock])).1⟩⟩⟩)
  have B8 := hid b8
  clear c3 l3 h3 b7 o8 b8 pl R1' R2 O6 B6
  go_upto_region 4 with fail
  generalize w7.setCell _ _ = w8 at *
  clear x27 y27
  go_wp2_with fail
  go_loopg [3] N (fun gh t wr => ∃ i : Nat, i + gh = N ∧ t = .int .i64 i ∧ Only (ownG (.slice a3 N k3)) w8 wr ∧ ∃ vs : List SlV, vs.length = N ∧ RowG slC 1 24 wr (.slice a3 N k3) vs ∧ ∀ (j : Nat) (v : SlV) (y : List Int), vs[j]? = some v → T3[j]? = some y → HoldsI .i64 wr v.sl (if j < i then y.take 20 else y) ∧ ∀ a : Addr, v.1 = some a → a.block ∉ ownG (.slice a3 N k3) ∧ W.heap.size ≤ a.block)
  case atStart => exact ⟨0, by omega, rfl, Only.refl _ _, us, U8.out.1, U8.out.2.1, fun j v y hv hy => by rw [if_neg (by omega)]; exact U8.out.2.2 j v y hv hy⟩
  case round =>
    obtain ⟨i, hi, rfl, hO, vs, hl, hR, hv⟩ := hrel
    have OO := hid hO
    have VL := hid hl
    have RR := hid hR
    have VV := hid hv
    have pn : p ∉ ownG (.slice a3 N k3) := fun h => by have := G3.out p h; have := PW.out; omega
    have c27 := (B8.out.only hO pn).cell (i := 27) (v := .slice a3 N k3) rfl
    have c28 := (B8.out.only hO pn).cell (i := 28) (v := .string x.pcm) rfl
    have f28 := (B8.out.only hO pn).frozen 28
    have PN := hid pn
    have i0 : (0 : Int) ≤ (i : Int) := by omega
    clear hO hl hR hv pn
    by_cases hg : gk = 0
    · have i1 : ¬ (i : Int) < (N : Int) := by omega
      have ie := hid (show i = N by omega)
      obtain ⟨n4, hn4⟩ : ∃ n, n = min x.pcm.size 400 := ⟨_, rfl⟩
      have m4 : min (x.pcm.size : Int) 400 = (n4 : Int) := by omega
      have d4 : (n4 : Int) ≤ (x.pcm.size : Int) := by omega
      have z4 : (0 : Int) ≤ (n4 : Int) := by omega
      have N4 := hid hn4
      clear hi hg hn4
      go_upto_region 9 with (refine wp_min_eq (by kernel_rfl) (.tmp 59) _ _ _ rfl .i64 _ _ n4 rfl rfl m4 ?_; simp only [Act.put, List.setIfInBounds_toArray, List.set_cons_zero, List.set_cons_succ])
      have b8 := B8.out.only OO.out PN.out
      have b9 := b8.set 28 (.string (x.pcm.extract 0 n4))
      have o9 : Only [p] wr (wr.setCell ⟨p, 28, none⟩ (.string (x.pcm.extract 0 n4))) := (Only.refl _ _).setCell (.inl (by simp)) _
      have B9 := hid (show Blk (wr.setCell ⟨p, 28, none⟩ (.string (x.pcm.extract 0 n4))) p 28 (mC (fewM x) (.slice a1 T1.length k1) (.slice a2 T2.length k2) (.slice a3 N k3)).toArray from by rw [FM.out, ← N4.out]; exact b9)
      have O9 := hid o9
      clear b8 b9 o9 c27 c28 f28
      generalize wr.setCell _ _ = w9 at *
      have GP : p + 1 ∉ ownG (.slice a3 N k3) := fun h => by have := G3.out _ h; have := PW.out; omega
      have q9 := ((BR.out.only O8.out (by simp)).only OO.out GP).only O9.out (by simp)
      go_wp2_with (first
        | (refine load_atA rfl 28 (.tmp 1) rfl ⟨p, 0, none⟩ (mC (fewM x) (.slice a1 T1.length k1) (.slice a2 T2.length k2) (.slice a3 N k3)) rfl B9.out.mb ?_; simp only [Act.put, List.setIfInBounds_toArray, List.set_cons_zero, List.set_cons_succ])
        | (refine store_blk rfl 28 _ _ rfl (p + 1) 0 _ _ (mC (fewM x) (.slice a1 T1.length k1) (.slice a2 T2.length k2) (.slice a3 N k3)) rfl rfl (info_mb' _ _ _ _) q9 (by simp [mC]) (one_mC _ rfl rfl rfl) ?_; intro w10 hB10 hO10))
      rw [setsA_full (by simp [mC])] at hB10
      refine bodyPost_ret (v := mV (fewM x) (.slice a1 T1.length k1) (.slice a2 T2.length k2) (.slice a3 N k3)) (res_c rfl rfl (lv_mb hB10)) rfl ⟨_, _, _, rfl, fun S w'' oS hS => ?_, ?_⟩
      · have e1 : (fewM x).refs = T1 := by rw [FM.out]
        have e2 : (fewM x).mvds = T2 := by rw [FM.out]
        have e3 : (fewM x).blocks = T3.map (fun l => l.take 20) := by rw [FM.out]
        have no1 : ∀ g, W.heap.size ≤ g → g ∉ p :: (p + 1) :: S := fun g hg h => by
          simp only [List.mem_cons] at h
          have h1 := OW.out.size
          have h2 := PW.out
          rcases h with h | h | h
          · omega
          · omega
          · have := hS g h
            omega
        have kk : Only (p :: (p + 1) :: S) wr w'' := ((O9.out.mono (fun g _ h => by simp at h ⊢; exact .inl h)).trans (hO10.mono (fun g _ h => by simp at h ⊢; exact .inr (.inl h)))).trans (oS.mono (fun g _ h => by simp; exact .inr (.inr h)))
        have EI := ie.out
        refine ⟨?_, ?_, ?_⟩
        · rw [e1]
          exact ((R8.out.only OO.out DR.out).only kk (fun g hg => no1 g (Q1.out g hg))).holds
        · rw [e2]
          exact ((V8.out.only OO.out DV.out).only kk (fun g hg => no1 g (Q2.out g hg))).holds vcC_ok
        · rw [e3]
          have rr := (RR.out.only kk (fun g hg => no1 g (G3.out g hg))).holds slC_ok
          have VL' := VL.out
          rw [← VL'] at rr
          refine ⟨vs, by rw [← VL']; exact rr, by rw [List.length_map]; have := NT.out; omega, fun j v y hv hy => ?_⟩
          rw [List.getElem?_map] at hy
          obtain ⟨z, hz, rfl⟩ := Option.map_eq_some_iff.1 hy
          have hj : j < i := by have := (List.getElem?_eq_some_iff.1 hv).1; omega
          obtain ⟨h1, h2⟩ := VV.out j v z hv hz
          rw [if_pos hj] at h1
          exact h1.only kk (fun a n c e h => no1 a.block (h2 a (by simp only [SlV.sl, Value.slice.injEq] at e; exact e.1)).2 h)
      · have kk : Only [p, p + 1] wr w10 := (O9.out.mono (fun g _ h => by simp at h ⊢; exact .inl h)).trans (hO10.mono (fun g _ h => by simp at h ⊢; exact .inr h))
        have k1 : Only [] w w8 := OW.out.trans2 O8.out (fun g hg => .inr (by have := PW.out; simp at hg; omega))
        have k2 : Only [] w wr := k1.trans2 OO.out (fun g hg => .inr (Nat.le_trans OW.out.size (G3.out g hg)))
        exact k2.trans2 kk (fun g hg => .inr (by have := PW.out; simp at hg; omega))
    · obtain ⟨gg, rfl⟩ : ∃ gg, gk = gg + 1 := ⟨gk - 1, by omega⟩
      have IN := hid (show i + 1 + gg = N ∧ i < N by omega)
      have i1 : (i : Int) < (N : Int) := by omega
      obtain ⟨v, hv⟩ : ∃ v, vs[i]? = some v := ⟨_, List.getElem?_eq_getElem (by have := VL.out; omega)⟩
      obtain ⟨y, hy⟩ : ∃ y, T3[i]? = some y := ⟨_, List.getElem?_eq_getElem (by have := NT.out; omega)⟩
      have HV := VV.out i v y hv hy
      rw [if_neg (by omega)] at HV
      obtain ⟨ua, uc, hus, u1, u2, _⟩ := id HV.1
      obtain ⟨va', vq, vc'⟩ := v
      have hus' : Value.slice va' vq vc' = Value.slice ua y.length uc := hus
      simp only [Value.slice.injEq] at hus'
      obtain ⟨rfl, rfl, rfl⟩ := hus'
      obtain ⟨gb, rfl⟩ : ∃ g, a3 = some ⟨g, 0, none⟩ := by
        rcases RR.out.2 with ⟨e, h0⟩ | ⟨g, cap, cur, e, _⟩
        · have := VL.out; omega
        · cases e; exact ⟨g, rfl⟩
      obtain ⟨b, o, e, hc⟩ := (show HoldsG slC 1 wr (.slice (some ⟨gb, 0, none⟩) N k3) vs from RR.out.holds slC_ok).at hv
      simp only [Option.some.injEq, Addr.mk.injEq] at e
      obtain ⟨rfl, rfl, _⟩ := e
      have cv := hc 0 (.slice va' y.length vc') rfl
      rw [Nat.zero_add, Nat.mul_one, Nat.add_zero] at cv
      have fv' := RR.out.frozen gb (by simp [ownG, Value.ownBlock]) i
      obtain ⟨q, hq⟩ : ∃ q, q = min y.length 20 := ⟨_, rfl⟩
      have mq : min (y.length : Int) 20 = (q : Int) := by omega
      have qc : (q : Int) ≤ (vc' : Int) := by omega
      have q0 : (0 : Int) ≤ (q : Int) := by omega
      have NEXT := hid (show ∃ us : List SlV, us.length = N ∧ RowG slC 1 24 (wr.setCell ⟨gb, i, none⟩ (.slice va' q vc')) (.slice (some ⟨gb, 0, none⟩) N k3) us ∧ ∀ (j : Nat) (v : SlV) (z : List Int), us[j]? = some v → T3[j]? = some z → HoldsI .i64 (wr.setCell ⟨gb, i, none⟩ (.slice va' q vc')) v.sl (if j < i + 1 then z.take 20 else z) ∧ ∀ a : Addr, v.1 = some a → a.block ∉ ownG (.slice (some ⟨gb, 0, none⟩) N k3) ∧ W.heap.size ≤ a.block from by
        refine ⟨vs.set i (va', q, vc'), by rw [List.length_set]; exact VL.out, RR.out.set1 i (va', q, vc') (by have := VL.out; omega), fun j v z hv' hz => ?_⟩
        have ks : Only [gb] wr (wr.setCell ⟨gb, i, none⟩ (.slice va' q vc')) := (Only.refl _ _).setCell (.inl (by simp)) _
        by_cases hj : j = i
        · subst hj
          rw [List.getElem?_set_self (by have := VL.out; omega)] at hv'
          cases hv'
          obtain rfl : y = z := Option.some.inj (hy.symm.trans hz)
          rw [if_pos (by omega)]
          refine ⟨?_, HV.2⟩
          have hp := HoldsI.part HV.1 q (by omega)
          rw [take_min _ _ _ hq] at hp
          exact hp.only ks (fun a n c e h => (HV.2 a (by cases e; rfl)).1 (by simpa [ownG, Value.ownBlock] using h))
        · rw [List.getElem?_set_ne (Ne.symm hj)] at hv'
          obtain ⟨h1, h2⟩ := VV.out j v z hv' hz
          refine ⟨?_, h2⟩
          have h3 := h1.only ks (fun a n c e h => (h2 a (by simp only [SlV.sl, Value.slice.injEq] at e; exact e.1)).1 (by simpa [ownG, Value.ownBlock] using h))
          by_cases hji : j < i
          · rw [if_pos hji] at h3; rw [if_pos (by omega)]; exact h3
          · rw [if_neg hji] at h3; rw [if_neg (by omega)]; exact h3)
      have ON := hid (show Only (ownG (.slice (some ⟨gb, 0, none⟩) N k3)) w8 (wr.setCell ⟨gb, i, none⟩ (.slice va' q vc')) from OO.out.setCell (.inl (by simp [ownG, Value.ownBlock])) _)
      clear hi hg hv hy HV hus u1 u2 hc
      rcases Nat.lt_or_ge 20 y.length with h20 | h20
      · obtain rfl : q = 20 := by omega
        have g20 : (20 : Int) < (y.length : Int) := by omega
        have qc2 : (20 : Int) ≤ (vc' : Int) := by omega
        clear hq mq h20 qc q0
        go_wp2_with fail
        go_still_tail 17, (by kernel_rfl)
        go_wp2_with fail
        go_roundg gg
        case measure => omega
        case rel => exact ⟨i + 1, IN.out.1, by go_num, ON.out.drewN 1, NEXT.out⟩
      · obtain rfl : q = y.length := by omega
        have G20 := hid (show ¬ (20 : Int) < (y.length : Int) by omega)
        clear hq mq h20
        go_wp2_with fail
        go_still_tail 17, (by kernel_rfl)
        rw [if_neg (Int.not_lt.2 G20.out)]
        repeat still_step
        refine wpStill_nil ?_
        go_wp2_with fail
        go_roundg gg
        case measure => omega
        case rel => exact ⟨i + 1, IN.out.1, by go_num, ON.out.drewN 1, NEXT.out⟩
end Go.Proofs.YtpmmnjeomdjakaaDoor

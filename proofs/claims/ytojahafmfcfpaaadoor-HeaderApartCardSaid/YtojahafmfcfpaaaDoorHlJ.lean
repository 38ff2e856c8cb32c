/- The laws' helpers: unequal headers are told unequal, second part. -/
import Derived.Test.YtojahafmfcfpaaaDoorMg15
namespace Go.Proofs.YtojahafmfcfpaaaDoor
open Go.RowKit
set_option linter.unusedVariables false
set_option linter.unusedSimpArgs false
theorem eql_fl2n (a b c d : Bool) (h : ¬ (a = c ∧ b = d)) (w : World) : (binOp .eql 23 (.agg #[.bool a, .bool b]) (.agg #[.bool c, .bool d])).run Tryd.prog w = .ok (.bool false) w := by
  cases a <;> cases b <;> cases c <;> cases d <;> first | (exact absurd ⟨rfl, rfl⟩ h) | (go_simp; done) | kernel_rfl
set_option maxRecDepth 100000 in
set_option maxHeartbeats 8000000 in
theorem eqh_no_over (x y : HV) (mv kv mv' kv' : Value) (w : World) (h1 : HoldsM w mv x.mods) (h2 : HoldsM w kv x.marks) (h3 : HoldsM w mv' y.mods) (h4 : HoldsM w kv' y.marks) (l1 : x.mods.length ≤ 1000000) (l2 : x.marks.length ≤ 1000000) (l3 : y.mods.length ≤ 1000000) (l4 : y.marks.length ≤ 1000000) (e0 : x.fi = y.fi) (e1 : x.intra = y.intra) (e2 : x.whole = y.whole) (e3 : x.pps = y.pps) (e4 : x.fr = y.fr) (e5 : x.idr = y.idr) (e6 : x.poc = y.poc) (ne : ¬ x.over = y.over) :
    Calls Tryd.prog 7 #[hV x mv kv, hV y mv' kv'] w fun e w' => e = .returned (.bool false) ∧ Only [] w w' := by
  obtain ⟨ma, mc, hmv, _⟩ := id h1
  obtain ⟨ka, kc, hkv, _⟩ := id h2
  obtain ⟨na, nc, hnv, _⟩ := id h3
  obtain ⟨ja, jc, hjv, _⟩ := id h4
  subst hmv hkv hnv hjv
  obtain ⟨fi, intra, whole, pps, fr, idr, poc, over, refs, listed, mods, f0, f1, ad, marks, ini, qp, fil, a, b⟩ := x
  obtain ⟨fi', intra', whole', pps', fr', idr', poc', over', refs', listed', mods', f0', f1', ad', marks', ini', qp', fil', a', b'⟩ := y
  dsimp only at *
  subst e0 e1 e2 e3 e4 e5 e6
  have d1 : (over == over') = false := by simpa using ne
  have d2 : decide (over = over') = false := decide_eq_false ne
  obtain ⟨W, hW⟩ : ∃ W, W = (w.alloc (.cells (hC ⟨fi, intra, whole, pps, fr, idr, poc, over, refs, listed, mods, f0, f1, ad, marks, ini, qp, fil, a, b⟩ (.slice ma mods.length mc) (.slice ka marks.length kc)).toArray 25)).alloc (.cells (hC ⟨fi, intra, whole, pps, fr, idr, poc, over', refs', listed', mods', f0', f1', ad', marks', ini', qp', fil', a', b'⟩ (.slice na mods'.length nc) (.slice ja marks'.length jc)).toArray 25) := ⟨_, rfl⟩
  have oW : Only [] w W := hW ▸ (((Only.refl [] w).alloc _).alloc _)
  have bX : Blk W w.heap.size 25 (hC ⟨fi, intra, whole, pps, fr, idr, poc, over, refs, listed, mods, f0, f1, ad, marks, ini, qp, fil, a, b⟩ (.slice ma mods.length mc) (.slice ka marks.length kc)).toArray := hW ▸ ((Blk.new w _ _).only ((Only.refl [] _).alloc _) (by simp))
  have bR : Blk W (w.heap.size + 1) 25 (hC ⟨fi, intra, whole, pps, fr, idr, poc, over', refs', listed', mods', f0', f1', ad', marks', ini', qp', fil', a', b'⟩ (.slice na mods'.length nc) (.slice ja marks'.length jc)).toArray := by
    have := Blk.new (w.alloc (.cells (hC ⟨fi, intra, whole, pps, fr, idr, poc, over, refs, listed, mods, f0, f1, ad, marks, ini, qp, fil, a, b⟩ (.slice ma mods.length mc) (.slice ka marks.length kc)).toArray 25)) 25 (hC ⟨fi, intra, whole, pps, fr, idr, poc, over', refs', listed', mods', f0', f1', ad', marks', ini', qp', fil', a', b'⟩ (.slice na mods'.length nc) (.slice ja marks'.length jc)).toArray
    rw [World.size_alloc] at this
    exact hW ▸ this
  have OW := hid oW
  obtain ⟨p, hp⟩ : ∃ p, p = w.heap.size := ⟨_, rfl⟩
  rw [← hp] at bX bR
  have BX := hid (fun w' (o : Only [] W w') => bX.only o (by simp))
  have BR := hid (fun w' (o : Only [] W w') => bR.only o (by simp))
  clear h1 h2 h3 h4 l1 l2 l3 l4 oW bX bR ne
  generalize mods.length = ml at *
  generalize marks.length = kl at *
  generalize mods'.length = ml' at *
  generalize marks'.length = kl' at *
  simp only [hV, hC] at hW ⊢
  simp only [hC] at BX BR
  obtain ⟨x0, x1, x2, x3, x4, x5, x6, x7, x8, x9, x10, _, _, _, _, _, _, _, _, _⟩ := Blk.hdr (x := ⟨fi, intra, whole, pps, fr, idr, poc, over, refs, listed, mods, f0, f1, ad, marks, ini, qp, fil, a, b⟩) (BX.out W (Only.refl [] W))
  obtain ⟨y0, y1, y2, y3, y4, y5, y6, y7, y8, y9, y10, _, _, _, _, _, _, _, _, _⟩ := Blk.hdr (x := ⟨fi, intra, whole, pps, fr, idr, poc, over', refs', listed', mods', f0', f1', ad', marks', ini', qp', fil', a', b'⟩) (BR.out W (Only.refl [] W))
  go_enter Tryd.func7, Tryd.ntmps7
  go_upto_region 1 with (fail)
  rw [← hW, ← hp]
  clear hW hp
  go_wp2_with fail
  go_ret
  exact ⟨rfl, OW.out⟩
set_option maxRecDepth 100000 in
set_option maxHeartbeats 8000000 in
theorem eqh_no_refs (x y : HV) (mv kv mv' kv' : Value) (w : World) (h1 : HoldsM w mv x.mods) (h2 : HoldsM w kv x.marks) (h3 : HoldsM w mv' y.mods) (h4 : HoldsM w kv' y.marks) (l1 : x.mods.length ≤ 1000000) (l2 : x.marks.length ≤ 1000000) (l3 : y.mods.length ≤ 1000000) (l4 : y.marks.length ≤ 1000000) (e0 : x.fi = y.fi) (e1 : x.intra = y.intra) (e2 : x.whole = y.whole) (e3 : x.pps = y.pps) (e4 : x.fr = y.fr) (e5 : x.idr = y.idr) (e6 : x.poc = y.poc) (e7 : x.over = y.over) (ne : ¬ x.refs = y.refs) :
    Calls Tryd.prog 7 #[hV x mv kv, hV y mv' kv'] w fun e w' => e = .returned (.bool false) ∧ Only [] w w' := by
  obtain ⟨ma, mc, hmv, _⟩ := id h1
  obtain ⟨ka, kc, hkv, _⟩ := id h2
  obtain ⟨na, nc, hnv, _⟩ := id h3
  obtain ⟨ja, jc, hjv, _⟩ := id h4
  subst hmv hkv hnv hjv
  obtain ⟨fi, intra, whole, pps, fr, idr, poc, over, refs, listed, mods, f0, f1, ad, marks, ini, qp, fil, a, b⟩ := x
  obtain ⟨fi', intra', whole', pps', fr', idr', poc', over', refs', listed', mods', f0', f1', ad', marks', ini', qp', fil', a', b'⟩ := y
  dsimp only at *
  subst e0 e1 e2 e3 e4 e5 e6 e7
  have d1 : (refs == refs') = false := by simpa using ne
  have d2 : decide (refs = refs') = false := decide_eq_false ne
  obtain ⟨W, hW⟩ : ∃ W, W = (w.alloc (.cells (hC ⟨fi, intra, whole, pps, fr, idr, poc, over, refs, listed, mods, f0, f1, ad, marks, ini, qp, fil, a, b⟩ (.slice ma mods.length mc) (.slice ka marks.length kc)).toArray 25)).alloc (.cells (hC ⟨fi, intra, whole, pps, fr, idr, poc, over, refs', listed', mods', f0', f1', ad', marks', ini', qp', fil', a', b'⟩ (.slice na mods'.length nc) (.slice ja marks'.length jc)).toArray 25) := ⟨_, rfl⟩
  have oW : Only [] w W := hW ▸ (((Only.refl [] w).alloc _).alloc _)
  have bX : Blk W w.heap.size 25 (hC ⟨fi, intra, whole, pps, fr, idr, poc, over, refs, listed, mods, f0, f1, ad, marks, ini, qp, fil, a, b⟩ (.slice ma mods.length mc) (.slice ka marks.length kc)).toArray := hW ▸ ((Blk.new w _ _).only ((Only.refl [] _).alloc _) (by simp))
  have bR : Blk W (w.heap.size + 1) 25 (hC ⟨fi, intra, whole, pps, fr, idr, poc, over, refs', listed', mods', f0', f1', ad', marks', ini', qp', fil', a', b'⟩ (.slice na mods'.length nc) (.slice ja marks'.length jc)).toArray := by
    have := Blk.new (w.alloc (.cells (hC ⟨fi, intra, whole, pps, fr, idr, poc, over, refs, listed, mods, f0, f1, ad, marks, ini, qp, fil, a, b⟩ (.slice ma mods.length mc) (.slice ka marks.length kc)).toArray 25)) 25 (hC ⟨fi, intra, whole, pps, fr, idr, poc, over, refs', listed', mods', f0', f1', ad', marks', ini', qp', fil', a', b'⟩ (.slice na mods'.length nc) (.slice ja marks'.length jc)).toArray
    rw [World.size_alloc] at this
    exact hW ▸ this
  have OW := hid oW
  obtain ⟨p, hp⟩ : ∃ p, p = w.heap.size := ⟨_, rfl⟩
  rw [← hp] at bX bR
  have BX := hid (fun w' (o : Only [] W w') => bX.only o (by simp))
  have BR := hid (fun w' (o : Only [] W w') => bR.only o (by simp))
  clear h1 h2 h3 h4 l1 l2 l3 l4 oW bX bR ne
  generalize mods.length = ml at *
  generalize marks.length = kl at *
  generalize mods'.length = ml' at *
  generalize marks'.length = kl' at *
  simp only [hV, hC] at hW ⊢
  simp only [hC] at BX BR
  obtain ⟨x0, x1, x2, x3, x4, x5, x6, x7, x8, x9, x10, _, _, _, _, _, _, _, _, _⟩ := Blk.hdr (x := ⟨fi, intra, whole, pps, fr, idr, poc, over, refs, listed, mods, f0, f1, ad, marks, ini, qp, fil, a, b⟩) (BX.out W (Only.refl [] W))
  obtain ⟨y0, y1, y2, y3, y4, y5, y6, y7, y8, y9, y10, _, _, _, _, _, _, _, _, _⟩ := Blk.hdr (x := ⟨fi, intra, whole, pps, fr, idr, poc, over, refs', listed', mods', f0', f1', ad', marks', ini', qp', fil', a', b'⟩) (BR.out W (Only.refl [] W))
  go_enter Tryd.func7, Tryd.ntmps7
  go_upto_region 1 with (fail)
  rw [← hW, ← hp]
  clear hW hp
  go_wp2_with fail
  go_ret
  exact ⟨rfl, OW.out⟩
set_option maxRecDepth 100000 in
set_option maxHeartbeats 8000000 in
theorem eqh_no_listed (x y : HV) (mv kv mv' kv' : Value) (w : World) (h1 : HoldsM w mv x.mods) (h2 : HoldsM w kv x.marks) (h3 : HoldsM w mv' y.mods) (h4 : HoldsM w kv' y.marks) (l1 : x.mods.length ≤ 1000000) (l2 : x.marks.length ≤ 1000000) (l3 : y.mods.length ≤ 1000000) (l4 : y.marks.length ≤ 1000000) (e0 : x.fi = y.fi) (e1 : x.intra = y.intra) (e2 : x.whole = y.whole) (e3 : x.pps = y.pps) (e4 : x.fr = y.fr) (e5 : x.idr = y.idr) (e6 : x.poc = y.poc) (e7 : x.over = y.over) (e8 : x.refs = y.refs) (ne : ¬ x.listed = y.listed) :
    Calls Tryd.prog 7 #[hV x mv kv, hV y mv' kv'] w fun e w' => e = .returned (.bool false) ∧ Only [] w w' := by
  obtain ⟨ma, mc, hmv, _⟩ := id h1
  obtain ⟨ka, kc, hkv, _⟩ := id h2
  obtain ⟨na, nc, hnv, _⟩ := id h3
  obtain ⟨ja, jc, hjv, _⟩ := id h4
  subst hmv hkv hnv hjv
  obtain ⟨fi, intra, whole, pps, fr, idr, poc, over, refs, listed, mods, f0, f1, ad, marks, ini, qp, fil, a, b⟩ := x
  obtain ⟨fi', intra', whole', pps', fr', idr', poc', over', refs', listed', mods', f0', f1', ad', marks', ini', qp', fil', a', b'⟩ := y
  dsimp only at *
  subst e0 e1 e2 e3 e4 e5 e6 e7 e8
  have d1 : (listed == listed') = false := by simpa using ne
  have d2 : decide (listed = listed') = false := decide_eq_false ne
  obtain ⟨W, hW⟩ : ∃ W, W = (w.alloc (.cells (hC ⟨fi, intra, whole, pps, fr, idr, poc, over, refs, listed, mods, f0, f1, ad, marks, ini, qp, fil, a, b⟩ (.slice ma mods.length mc) (.slice ka marks.length kc)).toArray 25)).alloc (.cells (hC ⟨fi, intra, whole, pps, fr, idr, poc, over, refs, listed', mods', f0', f1', ad', marks', ini', qp', fil', a', b'⟩ (.slice na mods'.length nc) (.slice ja marks'.length jc)).toArray 25) := ⟨_, rfl⟩
  have oW : Only [] w W := hW ▸ (((Only.refl [] w).alloc _).alloc _)
  have bX : Blk W w.heap.size 25 (hC ⟨fi, intra, whole, pps, fr, idr, poc, over, refs, listed, mods, f0, f1, ad, marks, ini, qp, fil, a, b⟩ (.slice ma mods.length mc) (.slice ka marks.length kc)).toArray := hW ▸ ((Blk.new w _ _).only ((Only.refl [] _).alloc _) (by simp))
  have bR : Blk W (w.heap.size + 1) 25 (hC ⟨fi, intra, whole, pps, fr, idr, poc, over, refs, listed', mods', f0', f1', ad', marks', ini', qp', fil', a', b'⟩ (.slice na mods'.length nc) (.slice ja marks'.length jc)).toArray := by
    have := Blk.new (w.alloc (.cells (hC ⟨fi, intra, whole, pps, fr, idr, poc, over, refs, listed, mods, f0, f1, ad, marks, ini, qp, fil, a, b⟩ (.slice ma mods.length mc) (.slice ka marks.length kc)).toArray 25)) 25 (hC ⟨fi, intra, whole, pps, fr, idr, poc, over, refs, listed', mods', f0', f1', ad', marks', ini', qp', fil', a', b'⟩ (.slice na mods'.length nc) (.slice ja marks'.length jc)).toArray
    rw [World.size_alloc] at this
    exact hW ▸ this
  have OW := hid oW
  obtain ⟨p, hp⟩ : ∃ p, p = w.heap.size := ⟨_, rfl⟩
  rw [← hp] at bX bR
  have BX := hid (fun w' (o : Only [] W w') => bX.only o (by simp))
  have BR := hid (fun w' (o : Only [] W w') => bR.only o (by simp))
  clear h1 h2 h3 h4 l1 l2 l3 l4 oW bX bR ne
  generalize mods.length = ml at *
  generalize marks.length = kl at *
  generalize mods'.length = ml' at *
  generalize marks'.length = kl' at *
  simp only [hV, hC] at hW ⊢
  simp only [hC] at BX BR
  obtain ⟨x0, x1, x2, x3, x4, x5, x6, x7, x8, x9, x10, _, _, _, _, _, _, _, _, _⟩ := Blk.hdr (x := ⟨fi, intra, whole, pps, fr, idr, poc, over, refs, listed, mods, f0, f1, ad, marks, ini, qp, fil, a, b⟩) (BX.out W (Only.refl [] W))
  obtain ⟨y0, y1, y2, y3, y4, y5, y6, y7, y8, y9, y10, _, _, _, _, _, _, _, _, _⟩ := Blk.hdr (x := ⟨fi, intra, whole, pps, fr, idr, poc, over, refs, listed', mods', f0', f1', ad', marks', ini', qp', fil', a', b'⟩) (BR.out W (Only.refl [] W))
  go_enter Tryd.func7, Tryd.ntmps7
  go_upto_region 1 with (fail)
  rw [← hW, ← hp]
  clear hW hp
  go_wp2_with fail
  go_ret
  exact ⟨rfl, OW.out⟩
set_option maxRecDepth 100000 in
set_option maxHeartbeats 8000000 in
theorem eqh_no_mods (x y : HV) (mv kv mv' kv' : Value) (w : World) (h1 : HoldsM w mv x.mods) (h2 : HoldsM w kv x.marks) (h3 : HoldsM w mv' y.mods) (h4 : HoldsM w kv' y.marks) (l1 : x.mods.length ≤ 1000000) (l2 : x.marks.length ≤ 1000000) (l3 : y.mods.length ≤ 1000000) (l4 : y.marks.length ≤ 1000000) (e0 : x.fi = y.fi) (e1 : x.intra = y.intra) (e2 : x.whole = y.whole) (e3 : x.pps = y.pps) (e4 : x.fr = y.fr) (e5 : x.idr = y.idr) (e6 : x.poc = y.poc) (e7 : x.over = y.over) (e8 : x.refs = y.refs) (e9 : x.listed = y.listed) (ne : ¬ x.mods = y.mods) :
    Calls Tryd.prog 7 #[hV x mv kv, hV y mv' kv'] w fun e w' => e = .returned (.bool false) ∧ Only [] w w' := by
  obtain ⟨ma, mc, hmv, _⟩ := id h1
  obtain ⟨ka, kc, hkv, _⟩ := id h2
  obtain ⟨na, nc, hnv, _⟩ := id h3
  obtain ⟨ja, jc, hjv, _⟩ := id h4
  subst hmv hkv hnv hjv
  obtain ⟨fi, intra, whole, pps, fr, idr, poc, over, refs, listed, mods, f0, f1, ad, marks, ini, qp, fil, a, b⟩ := x
  obtain ⟨fi', intra', whole', pps', fr', idr', poc', over', refs', listed', mods', f0', f1', ad', marks', ini', qp', fil', a', b'⟩ := y
  dsimp only at *
  subst e0 e1 e2 e3 e4 e5 e6 e7 e8 e9
  have dn : decide (mods = mods') = false := decide_eq_false ne
  obtain ⟨W, hW⟩ : ∃ W, W = (w.alloc (.cells (hC ⟨fi, intra, whole, pps, fr, idr, poc, over, refs, listed, mods, f0, f1, ad, marks, ini, qp, fil, a, b⟩ (.slice ma mods.length mc) (.slice ka marks.length kc)).toArray 25)).alloc (.cells (hC ⟨fi, intra, whole, pps, fr, idr, poc, over, refs, listed, mods', f0', f1', ad', marks', ini', qp', fil', a', b'⟩ (.slice na mods'.length nc) (.slice ja marks'.length jc)).toArray 25) := ⟨_, rfl⟩
  have oW : Only [] w W := hW ▸ (((Only.refl [] w).alloc _).alloc _)
  have bX : Blk W w.heap.size 25 (hC ⟨fi, intra, whole, pps, fr, idr, poc, over, refs, listed, mods, f0, f1, ad, marks, ini, qp, fil, a, b⟩ (.slice ma mods.length mc) (.slice ka marks.length kc)).toArray := hW ▸ ((Blk.new w _ _).only ((Only.refl [] _).alloc _) (by simp))
  have bR : Blk W (w.heap.size + 1) 25 (hC ⟨fi, intra, whole, pps, fr, idr, poc, over, refs, listed, mods', f0', f1', ad', marks', ini', qp', fil', a', b'⟩ (.slice na mods'.length nc) (.slice ja marks'.length jc)).toArray := by
    have := Blk.new (w.alloc (.cells (hC ⟨fi, intra, whole, pps, fr, idr, poc, over, refs, listed, mods, f0, f1, ad, marks, ini, qp, fil, a, b⟩ (.slice ma mods.length mc) (.slice ka marks.length kc)).toArray 25)) 25 (hC ⟨fi, intra, whole, pps, fr, idr, poc, over, refs, listed, mods', f0', f1', ad', marks', ini', qp', fil', a', b'⟩ (.slice na mods'.length nc) (.slice ja marks'.length jc)).toArray
    rw [World.size_alloc] at this
    exact hW ▸ this
  have OW := hid oW
  have E1 := hid (fun w' (o : Only [] W w') => by have := eqm_any (.slice ma mods.length mc) (.slice na mods'.length nc) mods mods' w' (h1.only0 (oW.trans o)) (h3.only0 (oW.trans o)) l1 l3; rw [dn] at this; exact this)
  clear dn
  obtain ⟨p, hp⟩ : ∃ p, p = w.heap.size := ⟨_, rfl⟩
  rw [← hp] at bX bR
  have BX := hid (fun w' (o : Only [] W w') => bX.only o (by simp))
  have BR := hid (fun w' (o : Only [] W w') => bR.only o (by simp))
  clear h1 h2 h3 h4 l1 l2 l3 l4 oW bX bR ne
  generalize mods.length = ml at *
  generalize marks.length = kl at *
  generalize mods'.length = ml' at *
  generalize marks'.length = kl' at *
  simp only [hV, hC] at hW ⊢
  simp only [hC] at BX BR
  obtain ⟨x0, x1, x2, x3, x4, x5, x6, x7, x8, x9, x10, _, _, _, _, _, _, _, _, _⟩ := Blk.hdr (x := ⟨fi, intra, whole, pps, fr, idr, poc, over, refs, listed, mods, f0, f1, ad, marks, ini, qp, fil, a, b⟩) (BX.out W (Only.refl [] W))
  obtain ⟨y0, y1, y2, y3, y4, y5, y6, y7, y8, y9, y10, _, _, _, _, _, _, _, _, _⟩ := Blk.hdr (x := ⟨fi, intra, whole, pps, fr, idr, poc, over, refs, listed, mods', f0', f1', ad', marks', ini', qp', fil', a', b'⟩) (BR.out W (Only.refl [] W))
  go_enter Tryd.func7, Tryd.ntmps7
  go_upto_region 1 with (fail)
  rw [← hW, ← hp]
  clear hW hp
  go_wp2_with fail
  refine (E1.out W (Only.refl [] W)).mono ?_
  rintro e w2 ⟨rfl, o2⟩
  clear x0 y0 x1 y1 x2 y2 x3 y3 x4 y4 x5 y5 x6 y6 x7 y7 x8 y8 x9 y9 x10 y10
  go_wp2_with fail
  go_ret
  exact ⟨rfl, OW.out.trans o2⟩
set_option maxRecDepth 100000 in
set_option maxHeartbeats 8000000 in
theorem eqh_no_f0_f1 (x y : HV) (mv kv mv' kv' : Value) (w : World) (h1 : HoldsM w mv x.mods) (h2 : HoldsM w kv x.marks) (h3 : HoldsM w mv' y.mods) (h4 : HoldsM w kv' y.marks) (l1 : x.mods.length ≤ 1000000) (l2 : x.marks.length ≤ 1000000) (l3 : y.mods.length ≤ 1000000) (l4 : y.marks.length ≤ 1000000) (e0 : x.fi = y.fi) (e1 : x.intra = y.intra) (e2 : x.whole = y.whole) (e3 : x.pps = y.pps) (e4 : x.fr = y.fr) (e5 : x.idr = y.idr) (e6 : x.poc = y.poc) (e7 : x.over = y.over) (e8 : x.refs = y.refs) (e9 : x.listed = y.listed) (e10 : x.mods = y.mods) (ne : ¬ (x.f0 = y.f0 ∧ x.f1 = y.f1)) :
    Calls Tryd.prog 7 #[hV x mv kv, hV y mv' kv'] w fun e w' => e = .returned (.bool false) ∧ Only [] w w' := by
  obtain ⟨ma, mc, hmv, _⟩ := id h1
  obtain ⟨ka, kc, hkv, _⟩ := id h2
  obtain ⟨na, nc, hnv, _⟩ := id h3
  obtain ⟨ja, jc, hjv, _⟩ := id h4
  subst hmv hkv hnv hjv
  obtain ⟨fi, intra, whole, pps, fr, idr, poc, over, refs, listed, mods, f0, f1, ad, marks, ini, qp, fil, a, b⟩ := x
  obtain ⟨fi', intra', whole', pps', fr', idr', poc', over', refs', listed', mods', f0', f1', ad', marks', ini', qp', fil', a', b'⟩ := y
  dsimp only at *
  subst e0 e1 e2 e3 e4 e5 e6 e7 e8 e9 e10
  have EF := hid (fun w => eql_fl2n f0 f1 f0' f1' ne w)
  obtain ⟨W, hW⟩ : ∃ W, W = (w.alloc (.cells (hC ⟨fi, intra, whole, pps, fr, idr, poc, over, refs, listed, mods, f0, f1, ad, marks, ini, qp, fil, a, b⟩ (.slice ma mods.length mc) (.slice ka marks.length kc)).toArray 25)).alloc (.cells (hC ⟨fi, intra, whole, pps, fr, idr, poc, over, refs, listed, mods, f0', f1', ad', marks', ini', qp', fil', a', b'⟩ (.slice na mods.length nc) (.slice ja marks'.length jc)).toArray 25) := ⟨_, rfl⟩
  have oW : Only [] w W := hW ▸ (((Only.refl [] w).alloc _).alloc _)
  have bX : Blk W w.heap.size 25 (hC ⟨fi, intra, whole, pps, fr, idr, poc, over, refs, listed, mods, f0, f1, ad, marks, ini, qp, fil, a, b⟩ (.slice ma mods.length mc) (.slice ka marks.length kc)).toArray := hW ▸ ((Blk.new w _ _).only ((Only.refl [] _).alloc _) (by simp))
  have bR : Blk W (w.heap.size + 1) 25 (hC ⟨fi, intra, whole, pps, fr, idr, poc, over, refs, listed, mods, f0', f1', ad', marks', ini', qp', fil', a', b'⟩ (.slice na mods.length nc) (.slice ja marks'.length jc)).toArray := by
    have := Blk.new (w.alloc (.cells (hC ⟨fi, intra, whole, pps, fr, idr, poc, over, refs, listed, mods, f0, f1, ad, marks, ini, qp, fil, a, b⟩ (.slice ma mods.length mc) (.slice ka marks.length kc)).toArray 25)) 25 (hC ⟨fi, intra, whole, pps, fr, idr, poc, over, refs, listed, mods, f0', f1', ad', marks', ini', qp', fil', a', b'⟩ (.slice na mods.length nc) (.slice ja marks'.length jc)).toArray
    rw [World.size_alloc] at this
    exact hW ▸ this
  have OW := hid oW
  have E1 := hid (fun w' (o : Only [] W w') => by have := eqm_any (.slice ma mods.length mc) (.slice na mods.length nc) mods mods w' (h1.only0 (oW.trans o)) (h3.only0 (oW.trans o)) l1 l3; rw [decide_eq_true rfl] at this; exact this)
  obtain ⟨p, hp⟩ : ∃ p, p = w.heap.size := ⟨_, rfl⟩
  rw [← hp] at bX bR
  have BX := hid (fun w' (o : Only [] W w') => bX.only o (by simp))
  have BR := hid (fun w' (o : Only [] W w') => bR.only o (by simp))
  clear h1 h2 h3 h4 l1 l2 l3 l4 oW bX bR ne
  generalize mods.length = ml at *
  generalize marks.length = kl at *
  generalize marks'.length = kl' at *
  simp only [hV, hC] at hW ⊢
  simp only [hC] at BX BR
  obtain ⟨x0, x1, x2, x3, x4, x5, x6, x7, x8, x9, x10, _, _, _, _, _, _, _, _, _⟩ := Blk.hdr (x := ⟨fi, intra, whole, pps, fr, idr, poc, over, refs, listed, mods, f0, f1, ad, marks, ini, qp, fil, a, b⟩) (BX.out W (Only.refl [] W))
  obtain ⟨y0, y1, y2, y3, y4, y5, y6, y7, y8, y9, y10, _, _, _, _, _, _, _, _, _⟩ := Blk.hdr (x := ⟨fi, intra, whole, pps, fr, idr, poc, over, refs, listed, mods, f0', f1', ad', marks', ini', qp', fil', a', b'⟩) (BR.out W (Only.refl [] W))
  have EF := EF.out
  go_enter Tryd.func7, Tryd.ntmps7
  go_upto_region 1 with (fail)
  rw [← hW, ← hp]
  clear hW hp
  go_wp2_with fail
  refine (E1.out W (Only.refl [] W)).mono ?_
  rintro e w2 ⟨rfl, o2⟩
  clear x0 y0 x1 y1 x2 y2 x3 y3 x4 y4 x5 y5 x6 y6 x7 y7 x8 y8 x9 y9 x10 y10
  obtain ⟨_, _, _, _, _, _, _, _, _, _, _, x11, x12, x13, x14, _, _, _, _, _⟩ := Blk.hdr (x := ⟨fi, intra, whole, pps, fr, idr, poc, over, refs, listed, mods, f0, f1, ad, marks, ini, qp, fil, a, b⟩) (BX.out w2 o2)
  obtain ⟨_, _, _, _, _, _, _, _, _, _, _, y11, y12, y13, y14, _, _, _, _, _⟩ := Blk.hdr (x := ⟨fi, intra, whole, pps, fr, idr, poc, over, refs, listed, mods, f0', f1', ad', marks', ini', qp', fil', a', b'⟩) (BR.out w2 o2)
  go_wp2_with fail
  go_ret
  exact ⟨rfl, OW.out.trans o2⟩
set_option maxRecDepth 100000 in
set_option maxHeartbeats 8000000 in
theorem eqh_no_ad (x y : HV) (mv kv mv' kv' : Value) (w : World) (h1 : HoldsM w mv x.mods) (h2 : HoldsM w kv x.marks) (h3 : HoldsM w mv' y.mods) (h4 : HoldsM w kv' y.marks) (l1 : x.mods.length ≤ 1000000) (l2 : x.marks.length ≤ 1000000) (l3 : y.mods.length ≤ 1000000) (l4 : y.marks.length ≤ 1000000) (e0 : x.fi = y.fi) (e1 : x.intra = y.intra) (e2 : x.whole = y.whole) (e3 : x.pps = y.pps) (e4 : x.fr = y.fr) (e5 : x.idr = y.idr) (e6 : x.poc = y.poc) (e7 : x.over = y.over) (e8 : x.refs = y.refs) (e9 : x.listed = y.listed) (e10 : x.mods = y.mods) (e11 : x.f0 = y.f0) (e12 : x.f1 = y.f1) (ne : ¬ x.ad = y.ad) :
    Calls Tryd.prog 7 #[hV x mv kv, hV y mv' kv'] w fun e w' => e = .returned (.bool false) ∧ Only [] w w' := by
  obtain ⟨ma, mc, hmv, _⟩ := id h1
  obtain ⟨ka, kc, hkv, _⟩ := id h2
  obtain ⟨na, nc, hnv, _⟩ := id h3
  obtain ⟨ja, jc, hjv, _⟩ := id h4
  subst hmv hkv hnv hjv
  obtain ⟨fi, intra, whole, pps, fr, idr, poc, over, refs, listed, mods, f0, f1, ad, marks, ini, qp, fil, a, b⟩ := x
  obtain ⟨fi', intra', whole', pps', fr', idr', poc', over', refs', listed', mods', f0', f1', ad', marks', ini', qp', fil', a', b'⟩ := y
  dsimp only at *
  subst e0 e1 e2 e3 e4 e5 e6 e7 e8 e9 e10 e11 e12
  have d1 : (ad == ad') = false := by simpa using ne
  have d2 : decide (ad = ad') = false := decide_eq_false ne
  obtain ⟨W, hW⟩ : ∃ W, W = (w.alloc (.cells (hC ⟨fi, intra, whole, pps, fr, idr, poc, over, refs, listed, mods, f0, f1, ad, marks, ini, qp, fil, a, b⟩ (.slice ma mods.length mc) (.slice ka marks.length kc)).toArray 25)).alloc (.cells (hC ⟨fi, intra, whole, pps, fr, idr, poc, over, refs, listed, mods, f0, f1, ad', marks', ini', qp', fil', a', b'⟩ (.slice na mods.length nc) (.slice ja marks'.length jc)).toArray 25) := ⟨_, rfl⟩
  have oW : Only [] w W := hW ▸ (((Only.refl [] w).alloc _).alloc _)
  have bX : Blk W w.heap.size 25 (hC ⟨fi, intra, whole, pps, fr, idr, poc, over, refs, listed, mods, f0, f1, ad, marks, ini, qp, fil, a, b⟩ (.slice ma mods.length mc) (.slice ka marks.length kc)).toArray := hW ▸ ((Blk.new w _ _).only ((Only.refl [] _).alloc _) (by simp))
  have bR : Blk W (w.heap.size + 1) 25 (hC ⟨fi, intra, whole, pps, fr, idr, poc, over, refs, listed, mods, f0, f1, ad', marks', ini', qp', fil', a', b'⟩ (.slice na mods.length nc) (.slice ja marks'.length jc)).toArray := by
    have := Blk.new (w.alloc (.cells (hC ⟨fi, intra, whole, pps, fr, idr, poc, over, refs, listed, mods, f0, f1, ad, marks, ini, qp, fil, a, b⟩ (.slice ma mods.length mc) (.slice ka marks.length kc)).toArray 25)) 25 (hC ⟨fi, intra, whole, pps, fr, idr, poc, over, refs, listed, mods, f0, f1, ad', marks', ini', qp', fil', a', b'⟩ (.slice na mods.length nc) (.slice ja marks'.length jc)).toArray
    rw [World.size_alloc] at this
    exact hW ▸ this
  have OW := hid oW
  have E1 := hid (fun w' (o : Only [] W w') => by have := eqm_any (.slice ma mods.length mc) (.slice na mods.length nc) mods mods w' (h1.only0 (oW.trans o)) (h3.only0 (oW.trans o)) l1 l3; rw [decide_eq_true rfl] at this; exact this)
  obtain ⟨p, hp⟩ : ∃ p, p = w.heap.size := ⟨_, rfl⟩
  rw [← hp] at bX bR
  have BX := hid (fun w' (o : Only [] W w') => bX.only o (by simp))
  have BR := hid (fun w' (o : Only [] W w') => bR.only o (by simp))
  clear h1 h2 h3 h4 l1 l2 l3 l4 oW bX bR ne
  generalize mods.length = ml at *
  generalize marks.length = kl at *
  generalize marks'.length = kl' at *
  simp only [hV, hC] at hW ⊢
  simp only [hC] at BX BR
  obtain ⟨x0, x1, x2, x3, x4, x5, x6, x7, x8, x9, x10, _, _, _, _, _, _, _, _, _⟩ := Blk.hdr (x := ⟨fi, intra, whole, pps, fr, idr, poc, over, refs, listed, mods, f0, f1, ad, marks, ini, qp, fil, a, b⟩) (BX.out W (Only.refl [] W))
  obtain ⟨y0, y1, y2, y3, y4, y5, y6, y7, y8, y9, y10, _, _, _, _, _, _, _, _, _⟩ := Blk.hdr (x := ⟨fi, intra, whole, pps, fr, idr, poc, over, refs, listed, mods, f0, f1, ad', marks', ini', qp', fil', a', b'⟩) (BR.out W (Only.refl [] W))
  have EF := fun w => eql_fl2 f0 f1 w
  go_enter Tryd.func7, Tryd.ntmps7
  go_upto_region 1 with (fail)
  rw [← hW, ← hp]
  clear hW hp
  go_wp2_with fail
  refine (E1.out W (Only.refl [] W)).mono ?_
  rintro e w2 ⟨rfl, o2⟩
  clear x0 y0 x1 y1 x2 y2 x3 y3 x4 y4 x5 y5 x6 y6 x7 y7 x8 y8 x9 y9 x10 y10
  obtain ⟨_, _, _, _, _, _, _, _, _, _, _, x11, x12, x13, x14, _, _, _, _, _⟩ := Blk.hdr (x := ⟨fi, intra, whole, pps, fr, idr, poc, over, refs, listed, mods, f0, f1, ad, marks, ini, qp, fil, a, b⟩) (BX.out w2 o2)
  obtain ⟨_, _, _, _, _, _, _, _, _, _, _, y11, y12, y13, y14, _, _, _, _, _⟩ := Blk.hdr (x := ⟨fi, intra, whole, pps, fr, idr, poc, over, refs, listed, mods, f0, f1, ad', marks', ini', qp', fil', a', b'⟩) (BR.out w2 o2)
  go_wp2_with fail
  go_ret
  exact ⟨rfl, OW.out.trans o2⟩
end Go.Proofs.YtojahafmfcfpaaaDoor

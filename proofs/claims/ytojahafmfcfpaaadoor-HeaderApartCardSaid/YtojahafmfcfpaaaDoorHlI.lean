/- The laws' helpers: unequal headers are told unequal, first part. -/
import Derived.Test.YtojahafmfcfpaaaDoorMg15
namespace Go.Proofs.YtojahafmfcfpaaaDoor
open Go.RowKit
set_option linter.unusedVariables false
set_option linter.unusedSimpArgs false
set_option maxRecDepth 100000 in
set_option maxHeartbeats 8000000 in
theorem eqh_no_fi (x y : HV) (mv kv mv' kv' : Value) (w : World) (h1 : HoldsM w mv x.mods) (h2 : HoldsM w kv x.marks) (h3 : HoldsM w mv' y.mods) (h4 : HoldsM w kv' y.marks) (l1 : x.mods.length ≤ 1000000) (l2 : x.marks.length ≤ 1000000) (l3 : y.mods.length ≤ 1000000) (l4 : y.marks.length ≤ 1000000) (ne : ¬ x.fi = y.fi) :
    Calls Tryd.prog 7 #[hV x mv kv, hV y mv' kv'] w fun e w' => e = .returned (.bool false) ∧ Only [] w w' := by
  obtain ⟨ma, mc, hmv, _⟩ := id h1
  obtain ⟨ka, kc, hkv, _⟩ := id h2
  obtain ⟨na, nc, hnv, _⟩ := id h3
  obtain ⟨ja, jc, hjv, _⟩ := id h4
  subst hmv hkv hnv hjv
  obtain ⟨fi, intra, whole, pps, fr, idr, poc, over, refs, listed, mods, f0, f1, ad, marks, ini, qp, fil, a, b⟩ := x
  obtain ⟨fi', intra', whole', pps', fr', idr', poc', over', refs', listed', mods', f0', f1', ad', marks', ini', qp', fil', a', b'⟩ := y
  dsimp only at *
  have d1 : (fi == fi') = false := by simpa using ne
  have d2 : decide (fi = fi') = false := decide_eq_false ne
  obtain ⟨W, hW⟩ : ∃ W, W = (w.alloc (.cells (hC ⟨fi, intra, whole, pps, fr, idr, poc, over, refs, listed, mods, f0, f1, ad, marks, ini, qp, fil, a, b⟩ (.slice ma mods.length mc) (.slice ka marks.length kc)).toArray 25)).alloc (.cells (hC ⟨fi', intra', whole', pps', fr', idr', poc', over', refs', listed', mods', f0', f1', ad', marks', ini', qp', fil', a', b'⟩ (.slice na mods'.length nc) (.slice ja marks'.length jc)).toArray 25) := ⟨_, rfl⟩
  have oW : Only [] w W := hW ▸ (((Only.refl [] w).alloc _).alloc _)
  have bX : Blk W w.heap.size 25 (hC ⟨fi, intra, whole, pps, fr, idr, poc, over, refs, listed, mods, f0, f1, ad, marks, ini, qp, fil, a, b⟩ (.slice ma mods.length mc) (.slice ka marks.length kc)).toArray := hW ▸ ((Blk.new w _ _).only ((Only.refl [] _).alloc _) (by simp))
  have bR : Blk W (w.heap.size + 1) 25 (hC ⟨fi', intra', whole', pps', fr', idr', poc', over', refs', listed', mods', f0', f1', ad', marks', ini', qp', fil', a', b'⟩ (.slice na mods'.length nc) (.slice ja marks'.length jc)).toArray := by
    have := Blk.new (w.alloc (.cells (hC ⟨fi, intra, whole, pps, fr, idr, poc, over, refs, listed, mods, f0, f1, ad, marks, ini, qp, fil, a, b⟩ (.slice ma mods.length mc) (.slice ka marks.length kc)).toArray 25)) 25 (hC ⟨fi', intra', whole', pps', fr', idr', poc', over', refs', listed', mods', f0', f1', ad', marks', ini', qp', fil', a', b'⟩ (.slice na mods'.length nc) (.slice ja marks'.length jc)).toArray
    rw [World.size_alloc] at this
    exact hW ▸ this
  have OW := hid oW
  obtain ⟨p, hp⟩ : ∃ p, p = w.heap.size := ⟨_, rfl⟩
  rw [← hp] at bX bR
  have BX := hid (fun w' (o : Only [] W w') => bX.only o (by simp))
  have BR := hid (fun w' (o : Only [] W w') => bR.only o (by simp))
  clear h1 h2 h3 h4 l1 l2 l3 l4 oW bX bR ne
  generalize mods.length = ml at *
  generalize marks.length = kl at *
  generalize mods'.length = ml' at *
  generalize marks'.length = kl' at *
  simp only [hV, hC] at hW ⊢
  simp only [hC] at BX BR
  obtain ⟨x0, x1, x2, x3, x4, x5, x6, x7, x8, x9, x10, _, _, _, _, _, _, _, _, _⟩ := Blk.hdr (x := ⟨fi, intra, whole, pps, fr, idr, poc, over, refs, listed, mods, f0, f1, ad, marks, ini, qp, fil, a, b⟩) (BX.out W (Only.refl [] W))
  obtain ⟨y0, y1, y2, y3, y4, y5, y6, y7, y8, y9, y10, _, _, _, _, _, _, _, _, _⟩ := Blk.hdr (x := ⟨fi', intra', whole', pps', fr', idr', poc', over', refs', listed', mods', f0', f1', ad', marks', ini', qp', fil', a', b'⟩) (BR.out W (Only.refl [] W))
  go_enter Tryd.func7, Tryd.ntmps7
  go_upto_region 1 with (fail)
  rw [← hW, ← hp]
  clear hW hp
  go_wp2_with fail
  go_ret
  exact ⟨rfl, OW.out⟩
set_option maxRecDepth 100000 in
set_option maxHeartbeats 8000000 in
theorem eqh_no_intra (x y : HV) (mv kv mv' kv' : Value) (w : World) (h1 : HoldsM w mv x.mods) (h2 : HoldsM w kv x.marks) (h3 : HoldsM w mv' y.mods) (h4 : HoldsM w kv' y.marks) (l1 : x.mods.length ≤ 1000000) (l2 : x.marks.length ≤ 1000000) (l3 : y.mods.length ≤ 1000000) (l4 : y.marks.length ≤ 1000000) (e0 : x.fi = y.fi) (ne : ¬ x.intra = y.intra) :
    Calls Tryd.prog 7 #[hV x mv kv, hV y mv' kv'] w fun e w' => e = .returned (.bool false) ∧ Only [] w w' := by
  obtain ⟨ma, mc, hmv, _⟩ := id h1
  obtain ⟨ka, kc, hkv, _⟩ := id h2
  obtain ⟨na, nc, hnv, _⟩ := id h3
  obtain ⟨ja, jc, hjv, _⟩ := id h4
  subst hmv hkv hnv hjv
  obtain ⟨fi, intra, whole, pps, fr, idr, poc, over, refs, listed, mods, f0, f1, ad, marks, ini, qp, fil, a, b⟩ := x
  obtain ⟨fi', intra', whole', pps', fr', idr', poc', over', refs', listed', mods', f0', f1', ad', marks', ini', qp', fil', a', b'⟩ := y
  dsimp only at *
  subst e0
  have d1 : (intra == intra') = false := by simpa using ne
  have d2 : decide (intra = intra') = false := decide_eq_false ne
  obtain ⟨W, hW⟩ : ∃ W, W = (w.alloc (.cells (hC ⟨fi, intra, whole, pps, fr, idr, poc, over, refs, listed, mods, f0, f1, ad, marks, ini, qp, fil, a, b⟩ (.slice ma mods.length mc) (.slice ka marks.length kc)).toArray 25)).alloc (.cells (hC ⟨fi, intra', whole', pps', fr', idr', poc', over', refs', listed', mods', f0', f1', ad', marks', ini', qp', fil', a', b'⟩ (.slice na mods'.length nc) (.slice ja marks'.length jc)).toArray 25) := ⟨_, rfl⟩
  have oW : Only [] w W := hW ▸ (((Only.refl [] w).alloc _).alloc _)
  have bX : Blk W w.heap.size 25 (hC ⟨fi, intra, whole, pps, fr, idr, poc, over, refs, listed, mods, f0, f1, ad, marks, ini, qp, fil, a, b⟩ (.slice ma mods.length mc) (.slice ka marks.length kc)).toArray := hW ▸ ((Blk.new w _ _).only ((Only.refl [] _).alloc _) (by simp))
  have bR : Blk W (w.heap.size + 1) 25 (hC ⟨fi, intra', whole', pps', fr', idr', poc', over', refs', listed', mods', f0', f1', ad', marks', ini', qp', fil', a', b'⟩ (.slice na mods'.length nc) (.slice ja marks'.length jc)).toArray := by
    have := Blk.new (w.alloc (.cells (hC ⟨fi, intra, whole, pps, fr, idr, poc, over, refs, listed, mods, f0, f1, ad, marks, ini, qp, fil, a, b⟩ (.slice ma mods.length mc) (.slice ka marks.length kc)).toArray 25)) 25 (hC ⟨fi, intra', whole', pps', fr', idr', poc', over', refs', listed', mods', f0', f1', ad', marks', ini', qp', fil', a', b'⟩ (.slice na mods'.length nc) (.slice ja marks'.length jc)).toArray
    rw [World.size_alloc] at this
    exact hW ▸ this
  have OW := hid oW
  obtain ⟨p, hp⟩ : ∃ p, p = w.heap.size := ⟨_, rfl⟩
  rw [← hp] at bX bR
  have BX := hid (fun w' (o : Only [] W w') => bX.only o (by simp))
  have BR := hid (fun w' (o : Only [] W w') => bR.only o (by simp))
  clear h1 h2 h3 h4 l1 l2 l3 l4 oW bX bR ne
  generalize mods.length = ml at *
  generalize marks.length = kl at *
  generalize mods'.length = ml' at *
  generalize marks'.length = kl' at *
  simp only [hV, hC] at hW ⊢
  simp only [hC] at BX BR
  obtain ⟨x0, x1, x2, x3, x4, x5, x6, x7, x8, x9, x10, _, _, _, _, _, _, _, _, _⟩ := Blk.hdr (x := ⟨fi, intra, whole, pps, fr, idr, poc, over, refs, listed, mods, f0, f1, ad, marks, ini, qp, fil, a, b⟩) (BX.out W (Only.refl [] W))
  obtain ⟨y0, y1, y2, y3, y4, y5, y6, y7, y8, y9, y10, _, _, _, _, _, _, _, _, _⟩ := Blk.hdr (x := ⟨fi, intra', whole', pps', fr', idr', poc', over', refs', listed', mods', f0', f1', ad', marks', ini', qp', fil', a', b'⟩) (BR.out W (Only.refl [] W))
  go_enter Tryd.func7, Tryd.ntmps7
  go_upto_region 1 with (fail)
  rw [← hW, ← hp]
  clear hW hp
  go_wp2_with fail
  go_ret
  exact ⟨rfl, OW.out⟩
set_option maxRecDepth 100000 in
set_option maxHeartbeats 8000000 in
theorem eqh_no_whole (x y : HV) (mv kv mv' kv' : Value) (w : World) (h1 : HoldsM w mv x.mods) (h2 : HoldsM w kv x.marks) (h3 : HoldsM w mv' y.mods) (h4 : HoldsM w kv' y.marks) (l1 : x.mods.length ≤ 1000000) (l2 : x.marks.length ≤ 1000000) (l3 : y.mods.length ≤ 1000000) (l4 : y.marks.length ≤ 1000000) (e0 : x.fi = y.fi) (e1 : x.intra = y.intra) (ne : ¬ x.whole = y.whole) :
    Calls Tryd.prog 7 #[hV x mv kv, hV y mv' kv'] w fun e w' => e = .returned (.bool false) ∧ Only [] w w' := by
  obtain ⟨ma, mc, hmv, _⟩ := id h1
  obtain ⟨ka, kc, hkv, _⟩ := id h2
  obtain ⟨na, nc, hnv, _⟩ := id h3
  obtain ⟨ja, jc, hjv, _⟩ := id h4
  subst hmv hkv hnv hjv
  obtain ⟨fi, intra, whole, pps, fr, idr, poc, over, refs, listed, mods, f0, f1, ad, marks, ini, qp, fil, a, b⟩ := x
  obtain ⟨fi', intra', whole', pps', fr', idr', poc', over', refs', listed', mods', f0', f1', ad', marks', ini', qp', fil', a', b'⟩ := y
  dsimp only at *
  subst e0 e1
  have d1 : (whole == whole') = false := by simpa using ne
  have d2 : decide (whole = whole') = false := decide_eq_false ne
  obtain ⟨W, hW⟩ : ∃ W, W = (w.alloc (.cells (hC ⟨fi, intra, whole, pps, fr, idr, poc, over, refs, listed, mods, f0, f1, ad, marks, ini, qp, fil, a, b⟩ (.slice ma mods.length mc) (.slice ka marks.length kc)).toArray 25)).alloc (.cells (hC ⟨fi, intra, whole', pps', fr', idr', poc', over', refs', listed', mods', f0', f1', ad', marks', ini', qp', fil', a', b'⟩ (.slice na mods'.length nc) (.slice ja marks'.length jc)).toArray 25) := ⟨_, rfl⟩
  have oW : Only [] w W := hW ▸ (((Only.refl [] w).alloc _).alloc _)
  have bX : Blk W w.heap.size 25 (hC ⟨fi, intra, whole, pps, fr, idr, poc, over, refs, listed, mods, f0, f1, ad, marks, ini, qp, fil, a, b⟩ (.slice ma mods.length mc) (.slice ka marks.length kc)).toArray := hW ▸ ((Blk.new w _ _).only ((Only.refl [] _).alloc _) (by simp))
  have bR : Blk W (w.heap.size + 1) 25 (hC ⟨fi, intra, whole', pps', fr', idr', poc', over', refs', listed', mods', f0', f1', ad', marks', ini', qp', fil', a', b'⟩ (.slice na mods'.length nc) (.slice ja marks'.length jc)).toArray := by
    have := Blk.new (w.alloc (.cells (hC ⟨fi, intra, whole, pps, fr, idr, poc, over, refs, listed, mods, f0, f1, ad, marks, ini, qp, fil, a, b⟩ (.slice ma mods.length mc) (.slice ka marks.length kc)).toArray 25)) 25 (hC ⟨fi, intra, whole', pps', fr', idr', poc', over', refs', listed', mods', f0', f1', ad', marks', ini', qp', fil', a', b'⟩ (.slice na mods'.length nc) (.slice ja marks'.length jc)).toArray
    rw [World.size_alloc] at this
    exact hW ▸ this
  have OW := hid oW
  obtain ⟨p, hp⟩ : ∃ p, p = w.heap.size := ⟨_, rfl⟩
  rw [← hp] at bX bR
  have BX := hid (fun w' (o : Only [] W w') => bX.only o (by simp))
  have BR := hid (fun w' (o : Only [] W w') => bR.only o (by simp))
  clear h1 h2 h3 h4 l1 l2 l3 l4 oW bX bR ne
  generalize mods.length = ml at *
  generalize marks.length = kl at *
  generalize mods'.length = ml' at *
  generalize marks'.length = kl' at *
  simp only [hV, hC] at hW ⊢
  simp only [hC] at BX BR
  obtain ⟨x0, x1, x2, x3, x4, x5, x6, x7, x8, x9, x10, _, _, _, _, _, _, _, _, _⟩ := Blk.hdr (x := ⟨fi, intra, whole, pps, fr, idr, poc, over, refs, listed, mods, f0, f1, ad, marks, ini, qp, fil, a, b⟩) (BX.out W (Only.refl [] W))
  obtain ⟨y0, y1, y2, y3, y4, y5, y6, y7, y8, y9, y10, _, _, _, _, _, _, _, _, _⟩ := Blk.hdr (x := ⟨fi, intra, whole', pps', fr', idr', poc', over', refs', listed', mods', f0', f1', ad', marks', ini', qp', fil', a', b'⟩) (BR.out W (Only.refl [] W))
  go_enter Tryd.func7, Tryd.ntmps7
  go_upto_region 1 with (fail)
  rw [← hW, ← hp]
  clear hW hp
  go_wp2_with fail
  go_ret
  exact ⟨rfl, OW.out⟩
set_option maxRecDepth 100000 in
set_option maxHeartbeats 8000000 in
theorem eqh_no_pps (x y : HV) (mv kv mv' kv' : Value) (w : World) (h1 : HoldsM w mv x.mods) (h2 : HoldsM w kv x.marks) (h3 : HoldsM w mv' y.mods) (h4 : HoldsM w kv' y.marks) (l1 : x.mods.length ≤ 1000000) (l2 : x.marks.length ≤ 1000000) (l3 : y.mods.length ≤ 1000000) (l4 : y.marks.length ≤ 1000000) (e0 : x.fi = y.fi) (e1 : x.intra = y.intra) (e2 : x.whole = y.whole) (ne : ¬ x.pps = y.pps) :
    Calls Tryd.prog 7 #[hV x mv kv, hV y mv' kv'] w fun e w' => e = .returned (.bool false) ∧ Only [] w w' := by
  obtain ⟨ma, mc, hmv, _⟩ := id h1
  obtain ⟨ka, kc, hkv, _⟩ := id h2
  obtain ⟨na, nc, hnv, _⟩ := id h3
  obtain ⟨ja, jc, hjv, _⟩ := id h4
  subst hmv hkv hnv hjv
  obtain ⟨fi, intra, whole, pps, fr, idr, poc, over, refs, listed, mods, f0, f1, ad, marks, ini, qp, fil, a, b⟩ := x
  obtain ⟨fi', intra', whole', pps', fr', idr', poc', over', refs', listed', mods', f0', f1', ad', marks', ini', qp', fil', a', b'⟩ := y
  dsimp only at *
  subst e0 e1 e2
  have d1 : (pps == pps') = false := by simpa using ne
  have d2 : decide (pps = pps') = false := decide_eq_false ne
  obtain ⟨W, hW⟩ : ∃ W, W = (w.alloc (.cells (hC ⟨fi, intra, whole, pps, fr, idr, poc, over, refs, listed, mods, f0, f1, ad, marks, ini, qp, fil, a, b⟩ (.slice ma mods.length mc) (.slice ka marks.length kc)).toArray 25)).alloc (.cells (hC ⟨fi, intra, whole, pps', fr', idr', poc', over', refs', listed', mods', f0', f1', ad', marks', ini', qp', fil', a', b'⟩ (.slice na mods'.length nc) (.slice ja marks'.length jc)).toArray 25) := ⟨_, rfl⟩
  have oW : Only [] w W := hW ▸ (((Only.refl [] w).alloc _).alloc _)
  have bX : Blk W w.heap.size 25 (hC ⟨fi, intra, whole, pps, fr, idr, poc, over, refs, listed, mods, f0, f1, ad, marks, ini, qp, fil, a, b⟩ (.slice ma mods.length mc) (.slice ka marks.length kc)).toArray := hW ▸ ((Blk.new w _ _).only ((Only.refl [] _).alloc _) (by simp))
  have bR : Blk W (w.heap.size + 1) 25 (hC ⟨fi, intra, whole, pps', fr', idr', poc', over', refs', listed', mods', f0', f1', ad', marks', ini', qp', fil', a', b'⟩ (.slice na mods'.length nc) (.slice ja marks'.length jc)).toArray := by
    have := Blk.new (w.alloc (.cells (hC ⟨fi, intra, whole, pps, fr, idr, poc, over, refs, listed, mods, f0, f1, ad, marks, ini, qp, fil, a, b⟩ (.slice ma mods.length mc) (.slice ka marks.length kc)).toArray 25)) 25 (hC ⟨fi, intra, whole, pps', fr', idr', poc', over', refs', listed', mods', f0', f1', ad', marks', ini', qp', fil', a', b'⟩ (.slice na mods'.length nc) (.slice ja marks'.length jc)).toArray
    rw [World.size_alloc] at this
    exact hW ▸ this
  have OW := hid oW
  obtain ⟨p, hp⟩ : ∃ p, p = w.heap.size := ⟨_, rfl⟩
  rw [← hp] at bX bR
  have BX := hid (fun w' (o : Only [] W w') => bX.only o (by simp))
  have BR := hid (fun w' (o : Only [] W w') => bR.only o (by simp))
  clear h1 h2 h3 h4 l1 l2 l3 l4 oW bX bR ne
  generalize mods.length = ml at *
  generalize marks.length = kl at *
  generalize mods'.length = ml' at *
  generalize marks'.length = kl' at *
  simp only [hV, hC] at hW ⊢
  simp only [hC] at BX BR
  obtain ⟨x0, x1, x2, x3, x4, x5, x6, x7, x8, x9, x10, _, _, _, _, _, _, _, _, _⟩ := Blk.hdr (x := ⟨fi, intra, whole, pps, fr, idr, poc, over, refs, listed, mods, f0, f1, ad, marks, ini, qp, fil, a, b⟩) (BX.out W (Only.refl [] W))
  obtain ⟨y0, y1, y2, y3, y4, y5, y6, y7, y8, y9, y10, _, _, _, _, _, _, _, _, _⟩ := Blk.hdr (x := ⟨fi, intra, whole, pps', fr', idr', poc', over', refs', listed', mods', f0', f1', ad', marks', ini', qp', fil', a', b'⟩) (BR.out W (Only.refl [] W))
  go_enter Tryd.func7, Tryd.ntmps7
  go_upto_region 1 with (fail)
  rw [← hW, ← hp]
  clear hW hp
  go_wp2_with fail
  go_ret
  exact ⟨rfl, OW.out⟩
set_option maxRecDepth 100000 in
set_option maxHeartbeats 8000000 in
theorem eqh_no_fr (x y : HV) (mv kv mv' kv' : Value) (w : World) (h1 : HoldsM w mv x.mods) (h2 : HoldsM w kv x.marks) (h3 : HoldsM w mv' y.mods) (h4 : HoldsM w kv' y.marks) (l1 : x.mods.length ≤ 1000000) (l2 : x.marks.length ≤ 1000000) (l3 : y.mods.length ≤ 1000000) (l4 : y.marks.length ≤ 1000000) (e0 : x.fi = y.fi) (e1 : x.intra = y.intra) (e2 : x.whole = y.whole) (e3 : x.pps = y.pps) (ne : ¬ x.fr = y.fr) :
    Calls Tryd.prog 7 #[hV x mv kv, hV y mv' kv'] w fun e w' => e = .returned (.bool false) ∧ Only [] w w' := by
  obtain ⟨ma, mc, hmv, _⟩ := id h1
  obtain ⟨ka, kc, hkv, _⟩ := id h2
  obtain ⟨na, nc, hnv, _⟩ := id h3
  obtain ⟨ja, jc, hjv, _⟩ := id h4
  subst hmv hkv hnv hjv
  obtain ⟨fi, intra, whole, pps, fr, idr, poc, over, refs, listed, mods, f0, f1, ad, marks, ini, qp, fil, a, b⟩ := x
  obtain ⟨fi', intra', whole', pps', fr', idr', poc', over', refs', listed', mods', f0', f1', ad', marks', ini', qp', fil', a', b'⟩ := y
  dsimp only at *
  subst e0 e1 e2 e3
  have d1 : (fr == fr') = false := by simpa using ne
  have d2 : decide (fr = fr') = false := decide_eq_false ne
  obtain ⟨W, hW⟩ : ∃ W, W = (w.alloc (.cells (hC ⟨fi, intra, whole, pps, fr, idr, poc, over, refs, listed, mods, f0, f1, ad, marks, ini, qp, fil, a, b⟩ (.slice ma mods.length mc) (.slice ka marks.length kc)).toArray 25)).alloc (.cells (hC ⟨fi, intra, whole, pps, fr', idr', poc', over', refs', listed', mods', f0', f1', ad', marks', ini', qp', fil', a', b'⟩ (.slice na mods'.length nc) (.slice ja marks'.length jc)).toArray 25) := ⟨_, rfl⟩
  have oW : Only [] w W := hW ▸ (((Only.refl [] w).alloc _).alloc _)
  have bX : Blk W w.heap.size 25 (hC ⟨fi, intra, whole, pps, fr, idr, poc, over, refs, listed, mods, f0, f1, ad, marks, ini, qp, fil, a, b⟩ (.slice ma mods.length mc) (.slice ka marks.length kc)).toArray := hW ▸ ((Blk.new w _ _).only ((Only.refl [] _).alloc _) (by simp))
  have bR : Blk W (w.heap.size + 1) 25 (hC ⟨fi, intra, whole, pps, fr', idr', poc', over', refs', listed', mods', f0', f1', ad', marks', ini', qp', fil', a', b'⟩ (.slice na mods'.length nc) (.slice ja marks'.length jc)).toArray := by
    have := Blk.new (w.alloc (.cells (hC ⟨fi, intra, whole, pps, fr, idr, poc, over, refs, listed, mods, f0, f1, ad, marks, ini, qp, fil, a, b⟩ (.slice ma mods.length mc) (.slice ka marks.length kc)).toArray 25)) 25 (hC ⟨fi, intra, whole, pps, fr', idr', poc', over', refs', listed', mods', f0', f1', ad', marks', ini', qp', fil', a', b'⟩ (.slice na mods'.length nc) (.slice ja marks'.length jc)).toArray
    rw [World.size_alloc] at this
    exact hW ▸ this
  have OW := hid oW
  obtain ⟨p, hp⟩ : ∃ p, p = w.heap.size := ⟨_, rfl⟩
  rw [← hp] at bX bR
  have BX := hid (fun w' (o : Only [] W w') => bX.only o (by simp))
  have BR := hid (fun w' (o : Only [] W w') => bR.only o (by simp))
  clear h1 h2 h3 h4 l1 l2 l3 l4 oW bX bR ne
  generalize mods.length = ml at *
  generalize marks.length = kl at *
  generalize mods'.length = ml' at *
  generalize marks'.length = kl' at *
  simp only [hV, hC] at hW ⊢
  simp only [hC] at BX BR
  obtain ⟨x0, x1, x2, x3, x4, x5, x6, x7, x8, x9, x10, _, _, _, _, _, _, _, _, _⟩ := Blk.hdr (x := ⟨fi, intra, whole, pps, fr, idr, poc, over, refs, listed, mods, f0, f1, ad, marks, ini, qp, fil, a, b⟩) (BX.out W (Only.refl [] W))
  obtain ⟨y0, y1, y2, y3, y4, y5, y6, y7, y8, y9, y10, _, _, _, _, _, _, _, _, _⟩ := Blk.hdr (x := ⟨fi, intra, whole, pps, fr', idr', poc', over', refs', listed', mods', f0', f1', ad', marks', ini', qp', fil', a', b'⟩) (BR.out W (Only.refl [] W))
  go_enter Tryd.func7, Tryd.ntmps7
  go_upto_region 1 with (fail)
  rw [← hW, ← hp]
  clear hW hp
  go_wp2_with fail
  go_ret
  exact ⟨rfl, OW.out⟩
set_option maxRecDepth 100000 in
set_option maxHeartbeats 8000000 in
theorem eqh_no_idr (x y : HV) (mv kv mv' kv' : Value) (w : World) (h1 : HoldsM w mv x.mods) (h2 : HoldsM w kv x.marks) (h3 : HoldsM w mv' y.mods) (h4 : HoldsM w kv' y.marks) (l1 : x.mods.length ≤ 1000000) (l2 : x.marks.length ≤ 1000000) (l3 : y.mods.length ≤ 1000000) (l4 : y.marks.length ≤ 1000000) (e0 : x.fi = y.fi) (e1 : x.intra = y.intra) (e2 : x.whole = y.whole) (e3 : x.pps = y.pps) (e4 : x.fr = y.fr) (ne : ¬ x.idr = y.idr) :
    Calls Tryd.prog 7 #[hV x mv kv, hV y mv' kv'] w fun e w' => e = .returned (.bool false) ∧ Only [] w w' := by
  obtain ⟨ma, mc, hmv, _⟩ := id h1
  obtain ⟨ka, kc, hkv, _⟩ := id h2
  obtain ⟨na, nc, hnv, _⟩ := id h3
  obtain ⟨ja, jc, hjv, _⟩ := id h4
  subst hmv hkv hnv hjv
  obtain ⟨fi, intra, whole, pps, fr, idr, poc, over, refs, listed, mods, f0, f1, ad, marks, ini, qp, fil, a, b⟩ := x
  obtain ⟨fi', intra', whole', pps', fr', idr', poc', over', refs', listed', mods', f0', f1', ad', marks', ini', qp', fil', a', b'⟩ := y
  dsimp only at *
  subst e0 e1 e2 e3 e4
  have d1 : (idr == idr') = false := by simpa using ne
  have d2 : decide (idr = idr') = false := decide_eq_false ne
  obtain ⟨W, hW⟩ : ∃ W, W = (w.alloc (.cells (hC ⟨fi, intra, whole, pps, fr, idr, poc, over, refs, listed, mods, f0, f1, ad, marks, ini, qp, fil, a, b⟩ (.slice ma mods.length mc) (.slice ka marks.length kc)).toArray 25)).alloc (.cells (hC ⟨fi, intra, whole, pps, fr, idr', poc', over', refs', listed', mods', f0', f1', ad', marks', ini', qp', fil', a', b'⟩ (.slice na mods'.length nc) (.slice ja marks'.length jc)).toArray 25) := ⟨_, rfl⟩
  have oW : Only [] w W := hW ▸ (((Only.refl [] w).alloc _).alloc _)
  have bX : Blk W w.heap.size 25 (hC ⟨fi, intra, whole, pps, fr, idr, poc, over, refs, listed, mods, f0, f1, ad, marks, ini, qp, fil, a, b⟩ (.slice ma mods.length mc) (.slice ka marks.length kc)).toArray := hW ▸ ((Blk.new w _ _).only ((Only.refl [] _).alloc _) (by simp))
  have bR : Blk W (w.heap.size + 1) 25 (hC ⟨fi, intra, whole, pps, fr, idr', poc', over', refs', listed', mods', f0', f1', ad', marks', ini', qp', fil', a', b'⟩ (.slice na mods'.length nc) (.slice ja marks'.length jc)).toArray := by
    have := Blk.new (w.alloc (.cells (hC ⟨fi, intra, whole, pps, fr, idr, poc, over, refs, listed, mods, f0, f1, ad, marks, ini, qp, fil, a, b⟩ (.slice ma mods.length mc) (.slice ka marks.length kc)).toArray 25)) 25 (hC ⟨fi, intra, whole, pps, fr, idr', poc', over', refs', listed', mods', f0', f1', ad', marks', ini', qp', fil', a', b'⟩ (.slice na mods'.length nc) (.slice ja marks'.length jc)).toArray
    rw [World.size_alloc] at this
    exact hW ▸ this
  have OW := hid oW
  obtain ⟨p, hp⟩ : ∃ p, p = w.heap.size := ⟨_, rfl⟩
  rw [← hp] at bX bR
  have BX := hid (fun w' (o : Only [] W w') => bX.only o (by simp))
  have BR := hid (fun w' (o : Only [] W w') => bR.only o (by simp))
  clear h1 h2 h3 h4 l1 l2 l3 l4 oW bX bR ne
  generalize mods.length = ml at *
  generalize marks.length = kl at *
  generalize mods'.length = ml' at *
  generalize marks'.length = kl' at *
  simp only [hV, hC] at hW ⊢
  simp only [hC] at BX BR
  obtain ⟨x0, x1, x2, x3, x4, x5, x6, x7, x8, x9, x10, _, _, _, _, _, _, _, _, _⟩ := Blk.hdr (x := ⟨fi, intra, whole, pps, fr, idr, poc, over, refs, listed, mods, f0, f1, ad, marks, ini, qp, fil, a, b⟩) (BX.out W (Only.refl [] W))
  obtain ⟨y0, y1, y2, y3, y4, y5, y6, y7, y8, y9, y10, _, _, _, _, _, _, _, _, _⟩ := Blk.hdr (x := ⟨fi, intra, whole, pps, fr, idr', poc', over', refs', listed', mods', f0', f1', ad', marks', ini', qp', fil', a', b'⟩) (BR.out W (Only.refl [] W))
  go_enter Tryd.func7, Tryd.ntmps7
  go_upto_region 1 with (fail)
  rw [← hW, ← hp]
  clear hW hp
  go_wp2_with fail
  go_ret
  exact ⟨rfl, OW.out⟩
set_option maxRecDepth 100000 in
set_option maxHeartbeats 8000000 in
theorem eqh_no_poc (x y : HV) (mv kv mv' kv' : Value) (w : World) (h1 : HoldsM w mv x.mods) (h2 : HoldsM w kv x.marks) (h3 : HoldsM w mv' y.mods) (h4 : HoldsM w kv' y.marks) (l1 : x.mods.length ≤ 1000000) (l2 : x.marks.length ≤ 1000000) (l3 : y.mods.length ≤ 1000000) (l4 : y.marks.length ≤ 1000000) (e0 : x.fi = y.fi) (e1 : x.intra = y.intra) (e2 : x.whole = y.whole) (e3 : x.pps = y.pps) (e4 : x.fr = y.fr) (e5 : x.idr = y.idr) (ne : ¬ x.poc = y.poc) :
    Calls Tryd.prog 7 #[hV x mv kv, hV y mv' kv'] w fun e w' => e = .returned (.bool false) ∧ Only [] w w' := by
  obtain ⟨ma, mc, hmv, _⟩ := id h1
  obtain ⟨ka, kc, hkv, _⟩ := id h2
  obtain ⟨na, nc, hnv, _⟩ := id h3
  obtain ⟨ja, jc, hjv, _⟩ := id h4
  subst hmv hkv hnv hjv
  obtain ⟨fi, intra, whole, pps, fr, idr, poc, over, refs, listed, mods, f0, f1, ad, marks, ini, qp, fil, a, b⟩ := x
  obtain ⟨fi', intra', whole', pps', fr', idr', poc', over', refs', listed', mods', f0', f1', ad', marks', ini', qp', fil', a', b'⟩ := y
  dsimp only at *
  subst e0 e1 e2 e3 e4 e5
  have d1 : (poc == poc') = false := by simpa using ne
  have d2 : decide (poc = poc') = false := decide_eq_false ne
  obtain ⟨W, hW⟩ : ∃ W, W = (w.alloc (.cells (hC ⟨fi, intra, whole, pps, fr, idr, poc, over, refs, listed, mods, f0, f1, ad, marks, ini, qp, fil, a, b⟩ (.slice ma mods.length mc) (.slice ka marks.length kc)).toArray 25)).alloc (.cells (hC ⟨fi, intra, whole, pps, fr, idr, poc', over', refs', listed', mods', f0', f1', ad', marks', ini', qp', fil', a', b'⟩ (.slice na mods'.length nc) (.slice ja marks'.length jc)).toArray 25) := ⟨_, rfl⟩
  have oW : Only [] w W := hW ▸ (((Only.refl [] w).alloc _).alloc _)
  have bX : Blk W w.heap.size 25 (hC ⟨fi, intra, whole, pps, fr, idr, poc, over, refs, listed, mods, f0, f1, ad, marks, ini, qp, fil, a, b⟩ (.slice ma mods.length mc) (.slice ka marks.length kc)).toArray := hW ▸ ((Blk.new w _ _).only ((Only.refl [] _).alloc _) (by simp))
  have bR : Blk W (w.heap.size + 1) 25 (hC ⟨fi, intra, whole, pps, fr, idr, poc', over', refs', listed', mods', f0', f1', ad', marks', ini', qp', fil', a', b'⟩ (.slice na mods'.length nc) (.slice ja marks'.length jc)).toArray := by
    have := Blk.new (w.alloc (.cells (hC ⟨fi, intra, whole, pps, fr, idr, poc, over, refs, listed, mods, f0, f1, ad, marks, ini, qp, fil, a, b⟩ (.slice ma mods.length mc) (.slice ka marks.length kc)).toArray 25)) 25 (hC ⟨fi, intra, whole, pps, fr, idr, poc', over', refs', listed', mods', f0', f1', ad', marks', ini', qp', fil', a', b'⟩ (.slice na mods'.length nc) (.slice ja marks'.length jc)).toArray
    rw [World.size_alloc] at this
    exact hW ▸ this
  have OW := hid oW
  obtain ⟨p, hp⟩ : ∃ p, p = w.heap.size := ⟨_, rfl⟩
  rw [← hp] at bX bR
  have BX := hid (fun w' (o : Only [] W w') => bX.only o (by simp))
  have BR := hid (fun w' (o : Only [] W w') => bR.only o (by simp))
  clear h1 h2 h3 h4 l1 l2 l3 l4 oW bX bR ne
  generalize mods.length = ml at *
  generalize marks.length = kl at *
  generalize mods'.length = ml' at *
  generalize marks'.length = kl' at *
  simp only [hV, hC] at hW ⊢
  simp only [hC] at BX BR
  obtain ⟨x0, x1, x2, x3, x4, x5, x6, x7, x8, x9, x10, _, _, _, _, _, _, _, _, _⟩ := Blk.hdr (x := ⟨fi, intra, whole, pps, fr, idr, poc, over, refs, listed, mods, f0, f1, ad, marks, ini, qp, fil, a, b⟩) (BX.out W (Only.refl [] W))
  obtain ⟨y0, y1, y2, y3, y4, y5, y6, y7, y8, y9, y10, _, _, _, _, _, _, _, _, _⟩ := Blk.hdr (x := ⟨fi, intra, whole, pps, fr, idr, poc', over', refs', listed', mods', f0', f1', ad', marks', ini', qp', fil', a', b'⟩) (BR.out W (Only.refl [] W))
  go_enter Tryd.func7, Tryd.ntmps7
  go_upto_region 1 with (fail)
  rw [← hW, ← hp]
  clear hW hp
  go_wp2_with fail
  go_ret
  exact ⟨rfl, OW.out⟩
end Go.Proofs.YtojahafmfcfpaaaDoor

/- The laws' helpers: unequal headers are told unequal, third part. -/
import Derived.Test.YtojahafmfcfpaaaDoorMg15
namespace Go.Proofs.YtojahafmfcfpaaaDoor
open Go.RowKit
set_option linter.unusedVariables false
set_option linter.unusedSimpArgs false
set_option maxRecDepth 100000 in
set_option maxHeartbeats 8000000 in
theorem eqh_no_marks (x y : HV) (mv kv mv' kv' : Value) (w : World) (h1 : HoldsM w mv x.mods) (h2 : HoldsM w kv x.marks) (h3 : HoldsM w mv' y.mods) (h4 : HoldsM w kv' y.marks) (l1 : x.mods.length ≤ 1000000) (l2 : x.marks.length ≤ 1000000) (l3 : y.mods.length ≤ 1000000) (l4 : y.marks.length ≤ 1000000) (e0 : x.fi = y.fi) (e1 : x.intra = y.intra) (e2 : x.whole = y.whole) (e3 : x.pps = y.pps) (e4 : x.fr = y.fr) (e5 : x.idr = y.idr) (e6 : x.poc = y.poc) (e7 : x.over = y.over) (e8 : x.refs = y.refs) (e9 : x.listed = y.listed) (e10 : x.mods = y.mods) (e11 : x.f0 = y.f0) (e12 : x.f1 = y.f1) (e13 : x.ad = y.ad) (ne : ¬ x.marks = y.marks) :
    Calls Tryd.prog 7 #[hV x mv kv, hV y mv' kv'] w fun e w' => e = .returned (.bool false) ∧ Only [] w w' := by
  obtain ⟨ma, mc, hmv, _⟩ := id h1
  obtain ⟨ka, kc, hkv, _⟩ := id h2
  obtain ⟨na, nc, hnv, _⟩ := id h3
  obtain ⟨ja, jc, hjv, _⟩ := id h4
  subst hmv hkv hnv hjv
  obtain ⟨fi, intra, whole, pps, fr, idr, poc, over, refs, listed, mods, f0, f1, ad, marks, ini, qp, fil, a, b⟩ := x
  obtain ⟨fi', intra', whole', pps', fr', idr', poc', over', refs', listed', mods', f0', f1', ad', marks', ini', qp', fil', a', b'⟩ := y
  dsimp only at *
  subst e0 e1 e2 e3 e4 e5 e6 e7 e8 e9 e10 e11 e12 e13
  have dn : decide (marks = marks') = false := decide_eq_false ne
  obtain ⟨W, hW⟩ : ∃ W, W = (w.alloc (.cells (hC ⟨fi, intra, whole, pps, fr, idr, poc, over, refs, listed, mods, f0, f1, ad, marks, ini, qp, fil, a, b⟩ (.slice ma mods.length mc) (.slice ka marks.length kc)).toArray 25)).alloc (.cells (hC ⟨fi, intra, whole, pps, fr, idr, poc, over, refs, listed, mods, f0, f1, ad, marks', ini', qp', fil', a', b'⟩ (.slice na mods.length nc) (.slice ja marks'.length jc)).toArray 25) := ⟨_, rfl⟩
  have oW : Only [] w W := hW ▸ (((Only.refl [] w).alloc _).alloc _)
  have bX : Blk W w.heap.size 25 (hC ⟨fi, intra, whole, pps, fr, idr, poc, over, refs, listed, mods, f0, f1, ad, marks, ini, qp, fil, a, b⟩ (.slice ma mods.length mc) (.slice ka marks.length kc)).toArray := hW ▸ ((Blk.new w _ _).only ((Only.refl [] _).alloc _) (by simp))
  have bR : Blk W (w.heap.size + 1) 25 (hC ⟨fi, intra, whole, pps, fr, idr, poc, over, refs, listed, mods, f0, f1, ad, marks', ini', qp', fil', a', b'⟩ (.slice na mods.length nc) (.slice ja marks'.length jc)).toArray := by
    have := Blk.new (w.alloc (.cells (hC ⟨fi, intra, whole, pps, fr, idr, poc, over, refs, listed, mods, f0, f1, ad, marks, ini, qp, fil, a, b⟩ (.slice ma mods.length mc) (.slice ka marks.length kc)).toArray 25)) 25 (hC ⟨fi, intra, whole, pps, fr, idr, poc, over, refs, listed, mods, f0, f1, ad, marks', ini', qp', fil', a', b'⟩ (.slice na mods.length nc) (.slice ja marks'.length jc)).toArray
    rw [World.size_alloc] at this
    exact hW ▸ this
  have OW := hid oW
  have E1 := hid (fun w' (o : Only [] W w') => by have := eqm_any (.slice ma mods.length mc) (.slice na mods.length nc) mods mods w' (h1.only0 (oW.trans o)) (h3.only0 (oW.trans o)) l1 l3; rw [decide_eq_true rfl] at this; exact this)
  have E2 := hid (fun w' (o : Only [] W w') => by have := eqm_any (.slice ka marks.length kc) (.slice ja marks'.length jc) marks marks' w' (h2.only0 (oW.trans o)) (h4.only0 (oW.trans o)) l2 l4; rw [dn] at this; exact this)
  clear dn
  obtain ⟨p, hp⟩ : ∃ p, p = w.heap.size := ⟨_, rfl⟩
  rw [← hp] at bX bR
  have BX := hid (fun w' (o : Only [] W w') => bX.only o (by simp))
  have BR := hid (fun w' (o : Only [] W w') => bR.only o (by simp))
  clear h1 h2 h3 h4 l1 l2 l3 l4 oW bX bR ne
  generalize mods.length = ml at *
  generalize marks.length = kl at *
  generalize marks'.length = kl' at *
  simp only [hV, hC] at hW ⊢
  simp only [hC] at BX BR
  obtain ⟨x0, x1, x2, x3, x4, x5, x6, x7, x8, x9, x10, _, _, _, _, _, _, _, _, _⟩ := Blk.hdr (x := ⟨fi, intra, whole, pps, fr, idr, poc, over, refs, listed, mods, f0, f1, ad, marks, ini, qp, fil, a, b⟩) (BX.out W (Only.refl [] W))
  obtain ⟨y0, y1, y2, y3, y4, y5, y6, y7, y8, y9, y10, _, _, _, _, _, _, _, _, _⟩ := Blk.hdr (x := ⟨fi, intra, whole, pps, fr, idr, poc, over, refs, listed, mods, f0, f1, ad, marks', ini', qp', fil', a', b'⟩) (BR.out W (Only.refl [] W))
  have EF := fun w => eql_fl2 f0 f1 w
  go_enter Tryd.func7, Tryd.ntmps7
  go_upto_region 1 with (fail)
  rw [← hW, ← hp]
  clear hW hp
  go_wp2_with fail
  refine (E1.out W (Only.refl [] W)).mono ?_
  rintro e w2 ⟨rfl, o2⟩
  clear x0 y0 x1 y1 x2 y2 x3 y3 x4 y4 x5 y5 x6 y6 x7 y7 x8 y8 x9 y9 x10 y10
  obtain ⟨_, _, _, _, _, _, _, _, _, _, _, x11, x12, x13, x14, _, _, _, _, _⟩ := Blk.hdr (x := ⟨fi, intra, whole, pps, fr, idr, poc, over, refs, listed, mods, f0, f1, ad, marks, ini, qp, fil, a, b⟩) (BX.out w2 o2)
  obtain ⟨_, _, _, _, _, _, _, _, _, _, _, y11, y12, y13, y14, _, _, _, _, _⟩ := Blk.hdr (x := ⟨fi, intra, whole, pps, fr, idr, poc, over, refs, listed, mods, f0, f1, ad, marks', ini', qp', fil', a', b'⟩) (BR.out w2 o2)
  go_wp2_with fail
  refine (E2.out w2 o2).mono ?_
  rintro e w3 ⟨rfl, o3⟩
  clear x11 y11 x12 y12 x13 y13 x14 y14
  have o4 := o2.trans o3
  go_wp2_with fail
  go_ret
  exact ⟨rfl, OW.out.trans o4⟩
set_option maxRecDepth 100000 in
set_option maxHeartbeats 8000000 in
theorem eqh_no_ini (x y : HV) (mv kv mv' kv' : Value) (w : World) (h1 : HoldsM w mv x.mods) (h2 : HoldsM w kv x.marks) (h3 : HoldsM w mv' y.mods) (h4 : HoldsM w kv' y.marks) (l1 : x.mods.length ≤ 1000000) (l2 : x.marks.length ≤ 1000000) (l3 : y.mods.length ≤ 1000000) (l4 : y.marks.length ≤ 1000000) (e0 : x.fi = y.fi) (e1 : x.intra = y.intra) (e2 : x.whole = y.whole) (e3 : x.pps = y.pps) (e4 : x.fr = y.fr) (e5 : x.idr = y.idr) (e6 : x.poc = y.poc) (e7 : x.over = y.over) (e8 : x.refs = y.refs) (e9 : x.listed = y.listed) (e10 : x.mods = y.mods) (e11 : x.f0 = y.f0) (e12 : x.f1 = y.f1) (e13 : x.ad = y.ad) (e14 : x.marks = y.marks) (ne : ¬ x.ini = y.ini) :
    Calls Tryd.prog 7 #[hV x mv kv, hV y mv' kv'] w fun e w' => e = .returned (.bool false) ∧ Only [] w w' := by
  obtain ⟨ma, mc, hmv, _⟩ := id h1
  obtain ⟨ka, kc, hkv, _⟩ := id h2
  obtain ⟨na, nc, hnv, _⟩ := id h3
  obtain ⟨ja, jc, hjv, _⟩ := id h4
  subst hmv hkv hnv hjv
  obtain ⟨fi, intra, whole, pps, fr, idr, poc, over, refs, listed, mods, f0, f1, ad, marks, ini, qp, fil, a, b⟩ := x
  obtain ⟨fi', intra', whole', pps', fr', idr', poc', over', refs', listed', mods', f0', f1', ad', marks', ini', qp', fil', a', b'⟩ := y
  dsimp only at *
  subst e0 e1 e2 e3 e4 e5 e6 e7 e8 e9 e10 e11 e12 e13 e14
  have d1 : (ini == ini') = false := by simpa using ne
  have d2 : decide (ini = ini') = false := decide_eq_false ne
  obtain ⟨W, hW⟩ : ∃ W, W = (w.alloc (.cells (hC ⟨fi, intra, whole, pps, fr, idr, poc, over, refs, listed, mods, f0, f1, ad, marks, ini, qp, fil, a, b⟩ (.slice ma mods.length mc) (.slice ka marks.length kc)).toArray 25)).alloc (.cells (hC ⟨fi, intra, whole, pps, fr, idr, poc, over, refs, listed, mods, f0, f1, ad, marks, ini', qp', fil', a', b'⟩ (.slice na mods.length nc) (.slice ja marks.length jc)).toArray 25) := ⟨_, rfl⟩
  have oW : Only [] w W := hW ▸ (((Only.refl [] w).alloc _).alloc _)
  have bX : Blk W w.heap.size 25 (hC ⟨fi, intra, whole, pps, fr, idr, poc, over, refs, listed, mods, f0, f1, ad, marks, ini, qp, fil, a, b⟩ (.slice ma mods.length mc) (.slice ka marks.length kc)).toArray := hW ▸ ((Blk.new w _ _).only ((Only.refl [] _).alloc _) (by simp))
  have bR : Blk W (w.heap.size + 1) 25 (hC ⟨fi, intra, whole, pps, fr, idr, poc, over, refs, listed, mods, f0, f1, ad, marks, ini', qp', fil', a', b'⟩ (.slice na mods.length nc) (.slice ja marks.length jc)).toArray := by
    have := Blk.new (w.alloc (.cells (hC ⟨fi, intra, whole, pps, fr, idr, poc, over, refs, listed, mods, f0, f1, ad, marks, ini, qp, fil, a, b⟩ (.slice ma mods.length mc) (.slice ka marks.length kc)).toArray 25)) 25 (hC ⟨fi, intra, whole, pps, fr, idr, poc, over, refs, listed, mods, f0, f1, ad, marks, ini', qp', fil', a', b'⟩ (.slice na mods.length nc) (.slice ja marks.length jc)).toArray
    rw [World.size_alloc] at this
    exact hW ▸ this
  have OW := hid oW
  have E1 := hid (fun w' (o : Only [] W w') => by have := eqm_any (.slice ma mods.length mc) (.slice na mods.length nc) mods mods w' (h1.only0 (oW.trans o)) (h3.only0 (oW.trans o)) l1 l3; rw [decide_eq_true rfl] at this; exact this)
  have E2 := hid (fun w' (o : Only [] W w') => by have := eqm_any (.slice ka marks.length kc) (.slice ja marks.length jc) marks marks w' (h2.only0 (oW.trans o)) (h4.only0 (oW.trans o)) l2 l4; rw [decide_eq_true rfl] at this; exact this)
  obtain ⟨p, hp⟩ : ∃ p, p = w.heap.size := ⟨_, rfl⟩
  rw [← hp] at bX bR
  have BX := hid (fun w' (o : Only [] W w') => bX.only o (by simp))
  have BR := hid (fun w' (o : Only [] W w') => bR.only o (by simp))
  clear h1 h2 h3 h4 l1 l2 l3 l4 oW bX bR ne
  generalize mods.length = ml at *
  generalize marks.length = kl at *
  simp only [hV, hC] at hW ⊢
  simp only [hC] at BX BR
  obtain ⟨x0, x1, x2, x3, x4, x5, x6, x7, x8, x9, x10, _, _, _, _, _, _, _, _, _⟩ := Blk.hdr (x := ⟨fi, intra, whole, pps, fr, idr, poc, over, refs, listed, mods, f0, f1, ad, marks, ini, qp, fil, a, b⟩) (BX.out W (Only.refl [] W))
  obtain ⟨y0, y1, y2, y3, y4, y5, y6, y7, y8, y9, y10, _, _, _, _, _, _, _, _, _⟩ := Blk.hdr (x := ⟨fi, intra, whole, pps, fr, idr, poc, over, refs, listed, mods, f0, f1, ad, marks, ini', qp', fil', a', b'⟩) (BR.out W (Only.refl [] W))
  have EF := fun w => eql_fl2 f0 f1 w
  go_enter Tryd.func7, Tryd.ntmps7
  go_upto_region 1 with (fail)
  rw [← hW, ← hp]
  clear hW hp
  go_wp2_with fail
  refine (E1.out W (Only.refl [] W)).mono ?_
  rintro e w2 ⟨rfl, o2⟩
  clear x0 y0 x1 y1 x2 y2 x3 y3 x4 y4 x5 y5 x6 y6 x7 y7 x8 y8 x9 y9 x10 y10
  obtain ⟨_, _, _, _, _, _, _, _, _, _, _, x11, x12, x13, x14, _, _, _, _, _⟩ := Blk.hdr (x := ⟨fi, intra, whole, pps, fr, idr, poc, over, refs, listed, mods, f0, f1, ad, marks, ini, qp, fil, a, b⟩) (BX.out w2 o2)
  obtain ⟨_, _, _, _, _, _, _, _, _, _, _, y11, y12, y13, y14, _, _, _, _, _⟩ := Blk.hdr (x := ⟨fi, intra, whole, pps, fr, idr, poc, over, refs, listed, mods, f0, f1, ad, marks, ini', qp', fil', a', b'⟩) (BR.out w2 o2)
  go_wp2_with fail
  refine (E2.out w2 o2).mono ?_
  rintro e w3 ⟨rfl, o3⟩
  clear x11 y11 x12 y12 x13 y13 x14 y14
  have o4 := o2.trans o3
  obtain ⟨_, _, _, _, _, _, _, _, _, _, _, _, _, _, _, x15, x16, x17, x18, x19⟩ := Blk.hdr (x := ⟨fi, intra, whole, pps, fr, idr, poc, over, refs, listed, mods, f0, f1, ad, marks, ini, qp, fil, a, b⟩) (BX.out w3 o4)
  obtain ⟨_, _, _, _, _, _, _, _, _, _, _, _, _, _, _, y15, y16, y17, y18, y19⟩ := Blk.hdr (x := ⟨fi, intra, whole, pps, fr, idr, poc, over, refs, listed, mods, f0, f1, ad, marks, ini', qp', fil', a', b'⟩) (BR.out w3 o4)
  go_wp2_with fail
  go_ret
  exact ⟨rfl, OW.out.trans o4⟩
set_option maxRecDepth 100000 in
set_option maxHeartbeats 8000000 in
theorem eqh_no_qp (x y : HV) (mv kv mv' kv' : Value) (w : World) (h1 : HoldsM w mv x.mods) (h2 : HoldsM w kv x.marks) (h3 : HoldsM w mv' y.mods) (h4 : HoldsM w kv' y.marks) (l1 : x.mods.length ≤ 1000000) (l2 : x.marks.length ≤ 1000000) (l3 : y.mods.length ≤ 1000000) (l4 : y.marks.length ≤ 1000000) (e0 : x.fi = y.fi) (e1 : x.intra = y.intra) (e2 : x.whole = y.whole) (e3 : x.pps = y.pps) (e4 : x.fr = y.fr) (e5 : x.idr = y.idr) (e6 : x.poc = y.poc) (e7 : x.over = y.over) (e8 : x.refs = y.refs) (e9 : x.listed = y.listed) (e10 : x.mods = y.mods) (e11 : x.f0 = y.f0) (e12 : x.f1 = y.f1) (e13 : x.ad = y.ad) (e14 : x.marks = y.marks) (e15 : x.ini = y.ini) (ne : ¬ x.qp = y.qp) :
    Calls Tryd.prog 7 #[hV x mv kv, hV y mv' kv'] w fun e w' => e = .returned (.bool false) ∧ Only [] w w' := by
  obtain ⟨ma, mc, hmv, _⟩ := id h1
  obtain ⟨ka, kc, hkv, _⟩ := id h2
  obtain ⟨na, nc, hnv, _⟩ := id h3
  obtain ⟨ja, jc, hjv, _⟩ := id h4
  subst hmv hkv hnv hjv
  obtain ⟨fi, intra, whole, pps, fr, idr, poc, over, refs, listed, mods, f0, f1, ad, marks, ini, qp, fil, a, b⟩ := x
  obtain ⟨fi', intra', whole', pps', fr', idr', poc', over', refs', listed', mods', f0', f1', ad', marks', ini', qp', fil', a', b'⟩ := y
  dsimp only at *
  subst e0 e1 e2 e3 e4 e5 e6 e7 e8 e9 e10 e11 e12 e13 e14 e15
  have d1 : (qp == qp') = false := by simpa using ne
  have d2 : decide (qp = qp') = false := decide_eq_false ne
  obtain ⟨W, hW⟩ : ∃ W, W = (w.alloc (.cells (hC ⟨fi, intra, whole, pps, fr, idr, poc, over, refs, listed, mods, f0, f1, ad, marks, ini, qp, fil, a, b⟩ (.slice ma mods.length mc) (.slice ka marks.length kc)).toArray 25)).alloc (.cells (hC ⟨fi, intra, whole, pps, fr, idr, poc, over, refs, listed, mods, f0, f1, ad, marks, ini, qp', fil', a', b'⟩ (.slice na mods.length nc) (.slice ja marks.length jc)).toArray 25) := ⟨_, rfl⟩
  have oW : Only [] w W := hW ▸ (((Only.refl [] w).alloc _).alloc _)
  have bX : Blk W w.heap.size 25 (hC ⟨fi, intra, whole, pps, fr, idr, poc, over, refs, listed, mods, f0, f1, ad, marks, ini, qp, fil, a, b⟩ (.slice ma mods.length mc) (.slice ka marks.length kc)).toArray := hW ▸ ((Blk.new w _ _).only ((Only.refl [] _).alloc _) (by simp))
  have bR : Blk W (w.heap.size + 1) 25 (hC ⟨fi, intra, whole, pps, fr, idr, poc, over, refs, listed, mods, f0, f1, ad, marks, ini, qp', fil', a', b'⟩ (.slice na mods.length nc) (.slice ja marks.length jc)).toArray := by
    have := Blk.new (w.alloc (.cells (hC ⟨fi, intra, whole, pps, fr, idr, poc, over, refs, listed, mods, f0, f1, ad, marks, ini, qp, fil, a, b⟩ (.slice ma mods.length mc) (.slice ka marks.length kc)).toArray 25)) 25 (hC ⟨fi, intra, whole, pps, fr, idr, poc, over, refs, listed, mods, f0, f1, ad, marks, ini, qp', fil', a', b'⟩ (.slice na mods.length nc) (.slice ja marks.length jc)).toArray
    rw [World.size_alloc] at this
    exact hW ▸ this
  have OW := hid oW
  have E1 := hid (fun w' (o : Only [] W w') => by have := eqm_any (.slice ma mods.length mc) (.slice na mods.length nc) mods mods w' (h1.only0 (oW.trans o)) (h3.only0 (oW.trans o)) l1 l3; rw [decide_eq_true rfl] at this; exact this)
  have E2 := hid (fun w' (o : Only [] W w') => by have := eqm_any (.slice ka marks.length kc) (.slice ja marks.length jc) marks marks w' (h2.only0 (oW.trans o)) (h4.only0 (oW.trans o)) l2 l4; rw [decide_eq_true rfl] at this; exact this)
  obtain ⟨p, hp⟩ : ∃ p, p = w.heap.size := ⟨_, rfl⟩
  rw [← hp] at bX bR
  have BX := hid (fun w' (o : Only [] W w') => bX.only o (by simp))
  have BR := hid (fun w' (o : Only [] W w') => bR.only o (by simp))
  clear h1 h2 h3 h4 l1 l2 l3 l4 oW bX bR ne
  generalize mods.length = ml at *
  generalize marks.length = kl at *
  simp only [hV, hC] at hW ⊢
  simp only [hC] at BX BR
  obtain ⟨x0, x1, x2, x3, x4, x5, x6, x7, x8, x9, x10, _, _, _, _, _, _, _, _, _⟩ := Blk.hdr (x := ⟨fi, intra, whole, pps, fr, idr, poc, over, refs, listed, mods, f0, f1, ad, marks, ini, qp, fil, a, b⟩) (BX.out W (Only.refl [] W))
  obtain ⟨y0, y1, y2, y3, y4, y5, y6, y7, y8, y9, y10, _, _, _, _, _, _, _, _, _⟩ := Blk.hdr (x := ⟨fi, intra, whole, pps, fr, idr, poc, over, refs, listed, mods, f0, f1, ad, marks, ini, qp', fil', a', b'⟩) (BR.out W (Only.refl [] W))
  have EF := fun w => eql_fl2 f0 f1 w
  go_enter Tryd.func7, Tryd.ntmps7
  go_upto_region 1 with (fail)
  rw [← hW, ← hp]
  clear hW hp
  go_wp2_with fail
  refine (E1.out W (Only.refl [] W)).mono ?_
  rintro e w2 ⟨rfl, o2⟩
  clear x0 y0 x1 y1 x2 y2 x3 y3 x4 y4 x5 y5 x6 y6 x7 y7 x8 y8 x9 y9 x10 y10
  obtain ⟨_, _, _, _, _, _, _, _, _, _, _, x11, x12, x13, x14, _, _, _, _, _⟩ := Blk.hdr (x := ⟨fi, intra, whole, pps, fr, idr, poc, over, refs, listed, mods, f0, f1, ad, marks, ini, qp, fil, a, b⟩) (BX.out w2 o2)
  obtain ⟨_, _, _, _, _, _, _, _, _, _, _, y11, y12, y13, y14, _, _, _, _, _⟩ := Blk.hdr (x := ⟨fi, intra, whole, pps, fr, idr, poc, over, refs, listed, mods, f0, f1, ad, marks, ini, qp', fil', a', b'⟩) (BR.out w2 o2)
  go_wp2_with fail
  refine (E2.out w2 o2).mono ?_
  rintro e w3 ⟨rfl, o3⟩
  clear x11 y11 x12 y12 x13 y13 x14 y14
  have o4 := o2.trans o3
  obtain ⟨_, _, _, _, _, _, _, _, _, _, _, _, _, _, _, x15, x16, x17, x18, x19⟩ := Blk.hdr (x := ⟨fi, intra, whole, pps, fr, idr, poc, over, refs, listed, mods, f0, f1, ad, marks, ini, qp, fil, a, b⟩) (BX.out w3 o4)
  obtain ⟨_, _, _, _, _, _, _, _, _, _, _, _, _, _, _, y15, y16, y17, y18, y19⟩ := Blk.hdr (x := ⟨fi, intra, whole, pps, fr, idr, poc, over, refs, listed, mods, f0, f1, ad, marks, ini, qp', fil', a', b'⟩) (BR.out w3 o4)
  go_wp2_with fail
  go_ret
  exact ⟨rfl, OW.out.trans o4⟩
set_option maxRecDepth 100000 in
set_option maxHeartbeats 8000000 in
theorem eqh_no_fil (x y : HV) (mv kv mv' kv' : Value) (w : World) (h1 : HoldsM w mv x.mods) (h2 : HoldsM w kv x.marks) (h3 : HoldsM w mv' y.mods) (h4 : HoldsM w kv' y.marks) (l1 : x.mods.length ≤ 1000000) (l2 : x.marks.length ≤ 1000000) (l3 : y.mods.length ≤ 1000000) (l4 : y.marks.length ≤ 1000000) (e0 : x.fi = y.fi) (e1 : x.intra = y.intra) (e2 : x.whole = y.whole) (e3 : x.pps = y.pps) (e4 : x.fr = y.fr) (e5 : x.idr = y.idr) (e6 : x.poc = y.poc) (e7 : x.over = y.over) (e8 : x.refs = y.refs) (e9 : x.listed = y.listed) (e10 : x.mods = y.mods) (e11 : x.f0 = y.f0) (e12 : x.f1 = y.f1) (e13 : x.ad = y.ad) (e14 : x.marks = y.marks) (e15 : x.ini = y.ini) (e16 : x.qp = y.qp) (ne : ¬ x.fil = y.fil) :
    Calls Tryd.prog 7 #[hV x mv kv, hV y mv' kv'] w fun e w' => e = .returned (.bool false) ∧ Only [] w w' := by
  obtain ⟨ma, mc, hmv, _⟩ := id h1
  obtain ⟨ka, kc, hkv, _⟩ := id h2
  obtain ⟨na, nc, hnv, _⟩ := id h3
  obtain ⟨ja, jc, hjv, _⟩ := id h4
  subst hmv hkv hnv hjv
  obtain ⟨fi, intra, whole, pps, fr, idr, poc, over, refs, listed, mods, f0, f1, ad, marks, ini, qp, fil, a, b⟩ := x
  obtain ⟨fi', intra', whole', pps', fr', idr', poc', over', refs', listed', mods', f0', f1', ad', marks', ini', qp', fil', a', b'⟩ := y
  dsimp only at *
  subst e0 e1 e2 e3 e4 e5 e6 e7 e8 e9 e10 e11 e12 e13 e14 e15 e16
  have d1 : (fil == fil') = false := by simpa using ne
  have d2 : decide (fil = fil') = false := decide_eq_false ne
  obtain ⟨W, hW⟩ : ∃ W, W = (w.alloc (.cells (hC ⟨fi, intra, whole, pps, fr, idr, poc, over, refs, listed, mods, f0, f1, ad, marks, ini, qp, fil, a, b⟩ (.slice ma mods.length mc) (.slice ka marks.length kc)).toArray 25)).alloc (.cells (hC ⟨fi, intra, whole, pps, fr, idr, poc, over, refs, listed, mods, f0, f1, ad, marks, ini, qp, fil', a', b'⟩ (.slice na mods.length nc) (.slice ja marks.length jc)).toArray 25) := ⟨_, rfl⟩
  have oW : Only [] w W := hW ▸ (((Only.refl [] w).alloc _).alloc _)
  have bX : Blk W w.heap.size 25 (hC ⟨fi, intra, whole, pps, fr, idr, poc, over, refs, listed, mods, f0, f1, ad, marks, ini, qp, fil, a, b⟩ (.slice ma mods.length mc) (.slice ka marks.length kc)).toArray := hW ▸ ((Blk.new w _ _).only ((Only.refl [] _).alloc _) (by simp))
  have bR : Blk W (w.heap.size + 1) 25 (hC ⟨fi, intra, whole, pps, fr, idr, poc, over, refs, listed, mods, f0, f1, ad, marks, ini, qp, fil', a', b'⟩ (.slice na mods.length nc) (.slice ja marks.length jc)).toArray := by
    have := Blk.new (w.alloc (.cells (hC ⟨fi, intra, whole, pps, fr, idr, poc, over, refs, listed, mods, f0, f1, ad, marks, ini, qp, fil, a, b⟩ (.slice ma mods.length mc) (.slice ka marks.length kc)).toArray 25)) 25 (hC ⟨fi, intra, whole, pps, fr, idr, poc, over, refs, listed, mods, f0, f1, ad, marks, ini, qp, fil', a', b'⟩ (.slice na mods.length nc) (.slice ja marks.length jc)).toArray
    rw [World.size_alloc] at this
    exact hW ▸ this
  have OW := hid oW
  have E1 := hid (fun w' (o : Only [] W w') => by have := eqm_any (.slice ma mods.length mc) (.slice na mods.length nc) mods mods w' (h1.only0 (oW.trans o)) (h3.only0 (oW.trans o)) l1 l3; rw [decide_eq_true rfl] at this; exact this)
  have E2 := hid (fun w' (o : Only [] W w') => by have := eqm_any (.slice ka marks.length kc) (.slice ja marks.length jc) marks marks w' (h2.only0 (oW.trans o)) (h4.only0 (oW.trans o)) l2 l4; rw [decide_eq_true rfl] at this; exact this)
  obtain ⟨p, hp⟩ : ∃ p, p = w.heap.size := ⟨_, rfl⟩
  rw [← hp] at bX bR
  have BX := hid (fun w' (o : Only [] W w') => bX.only o (by simp))
  have BR := hid (fun w' (o : Only [] W w') => bR.only o (by simp))
  clear h1 h2 h3 h4 l1 l2 l3 l4 oW bX bR ne
  generalize mods.length = ml at *
  generalize marks.length = kl at *
  simp only [hV, hC] at hW ⊢
  simp only [hC] at BX BR
  obtain ⟨x0, x1, x2, x3, x4, x5, x6, x7, x8, x9, x10, _, _, _, _, _, _, _, _, _⟩ := Blk.hdr (x := ⟨fi, intra, whole, pps, fr, idr, poc, over, refs, listed, mods, f0, f1, ad, marks, ini, qp, fil, a, b⟩) (BX.out W (Only.refl [] W))
  obtain ⟨y0, y1, y2, y3, y4, y5, y6, y7, y8, y9, y10, _, _, _, _, _, _, _, _, _⟩ := Blk.hdr (x := ⟨fi, intra, whole, pps, fr, idr, poc, over, refs, listed, mods, f0, f1, ad, marks, ini, qp, fil', a', b'⟩) (BR.out W (Only.refl [] W))
  have EF := fun w => eql_fl2 f0 f1 w
  go_enter Tryd.func7, Tryd.ntmps7
  go_upto_region 1 with (fail)
  rw [← hW, ← hp]
  clear hW hp
  go_wp2_with fail
  refine (E1.out W (Only.refl [] W)).mono ?_
  rintro e w2 ⟨rfl, o2⟩
  clear x0 y0 x1 y1 x2 y2 x3 y3 x4 y4 x5 y5 x6 y6 x7 y7 x8 y8 x9 y9 x10 y10
  obtain ⟨_, _, _, _, _, _, _, _, _, _, _, x11, x12, x13, x14, _, _, _, _, _⟩ := Blk.hdr (x := ⟨fi, intra, whole, pps, fr, idr, poc, over, refs, listed, mods, f0, f1, ad, marks, ini, qp, fil, a, b⟩) (BX.out w2 o2)
  obtain ⟨_, _, _, _, _, _, _, _, _, _, _, y11, y12, y13, y14, _, _, _, _, _⟩ := Blk.hdr (x := ⟨fi, intra, whole, pps, fr, idr, poc, over, refs, listed, mods, f0, f1, ad, marks, ini, qp, fil', a', b'⟩) (BR.out w2 o2)
  go_wp2_with fail
  refine (E2.out w2 o2).mono ?_
  rintro e w3 ⟨rfl, o3⟩
  clear x11 y11 x12 y12 x13 y13 x14 y14
  have o4 := o2.trans o3
  obtain ⟨_, _, _, _, _, _, _, _, _, _, _, _, _, _, _, x15, x16, x17, x18, x19⟩ := Blk.hdr (x := ⟨fi, intra, whole, pps, fr, idr, poc, over, refs, listed, mods, f0, f1, ad, marks, ini, qp, fil, a, b⟩) (BX.out w3 o4)
  obtain ⟨_, _, _, _, _, _, _, _, _, _, _, _, _, _, _, y15, y16, y17, y18, y19⟩ := Blk.hdr (x := ⟨fi, intra, whole, pps, fr, idr, poc, over, refs, listed, mods, f0, f1, ad, marks, ini, qp, fil', a', b'⟩) (BR.out w3 o4)
  go_wp2_with fail
  go_ret
  exact ⟨rfl, OW.out.trans o4⟩
set_option maxRecDepth 100000 in
set_option maxHeartbeats 8000000 in
theorem eqh_no_a (x y : HV) (mv kv mv' kv' : Value) (w : World) (h1 : HoldsM w mv x.mods) (h2 : HoldsM w kv x.marks) (h3 : HoldsM w mv' y.mods) (h4 : HoldsM w kv' y.marks) (l1 : x.mods.length ≤ 1000000) (l2 : x.marks.length ≤ 1000000) (l3 : y.mods.length ≤ 1000000) (l4 : y.marks.length ≤ 1000000) (e0 : x.fi = y.fi) (e1 : x.intra = y.intra) (e2 : x.whole = y.whole) (e3 : x.pps = y.pps) (e4 : x.fr = y.fr) (e5 : x.idr = y.idr) (e6 : x.poc = y.poc) (e7 : x.over = y.over) (e8 : x.refs = y.refs) (e9 : x.listed = y.listed) (e10 : x.mods = y.mods) (e11 : x.f0 = y.f0) (e12 : x.f1 = y.f1) (e13 : x.ad = y.ad) (e14 : x.marks = y.marks) (e15 : x.ini = y.ini) (e16 : x.qp = y.qp) (e17 : x.fil = y.fil) (ne : ¬ x.a = y.a) :
    Calls Tryd.prog 7 #[hV x mv kv, hV y mv' kv'] w fun e w' => e = .returned (.bool false) ∧ Only [] w w' := by
  obtain ⟨ma, mc, hmv, _⟩ := id h1
  obtain ⟨ka, kc, hkv, _⟩ := id h2
  obtain ⟨na, nc, hnv, _⟩ := id h3
  obtain ⟨ja, jc, hjv, _⟩ := id h4
  subst hmv hkv hnv hjv
  obtain ⟨fi, intra, whole, pps, fr, idr, poc, over, refs, listed, mods, f0, f1, ad, marks, ini, qp, fil, a, b⟩ := x
  obtain ⟨fi', intra', whole', pps', fr', idr', poc', over', refs', listed', mods', f0', f1', ad', marks', ini', qp', fil', a', b'⟩ := y
  dsimp only at *
  subst e0 e1 e2 e3 e4 e5 e6 e7 e8 e9 e10 e11 e12 e13 e14 e15 e16 e17
  have d1 : (a == a') = false := by simpa using ne
  have d2 : decide (a = a') = false := decide_eq_false ne
  obtain ⟨W, hW⟩ : ∃ W, W = (w.alloc (.cells (hC ⟨fi, intra, whole, pps, fr, idr, poc, over, refs, listed, mods, f0, f1, ad, marks, ini, qp, fil, a, b⟩ (.slice ma mods.length mc) (.slice ka marks.length kc)).toArray 25)).alloc (.cells (hC ⟨fi, intra, whole, pps, fr, idr, poc, over, refs, listed, mods, f0, f1, ad, marks, ini, qp, fil, a', b'⟩ (.slice na mods.length nc) (.slice ja marks.length jc)).toArray 25) := ⟨_, rfl⟩
  have oW : Only [] w W := hW ▸ (((Only.refl [] w).alloc _).alloc _)
  have bX : Blk W w.heap.size 25 (hC ⟨fi, intra, whole, pps, fr, idr, poc, over, refs, listed, mods, f0, f1, ad, marks, ini, qp, fil, a, b⟩ (.slice ma mods.length mc) (.slice ka marks.length kc)).toArray := hW ▸ ((Blk.new w _ _).only ((Only.refl [] _).alloc _) (by simp))
  have bR : Blk W (w.heap.size + 1) 25 (hC ⟨fi, intra, whole, pps, fr, idr, poc, over, refs, listed, mods, f0, f1, ad, marks, ini, qp, fil, a', b'⟩ (.slice na mods.length nc) (.slice ja marks.length jc)).toArray := by
    have := Blk.new (w.alloc (.cells (hC ⟨fi, intra, whole, pps, fr, idr, poc, over, refs, listed, mods, f0, f1, ad, marks, ini, qp, fil, a, b⟩ (.slice ma mods.length mc) (.slice ka marks.length kc)).toArray 25)) 25 (hC ⟨fi, intra, whole, pps, fr, idr, poc, over, refs, listed, mods, f0, f1, ad, marks, ini, qp, fil, a', b'⟩ (.slice na mods.length nc) (.slice ja marks.length jc)).toArray
    rw [World.size_alloc] at this
    exact hW ▸ this
  have OW := hid oW
  have E1 := hid (fun w' (o : Only [] W w') => by have := eqm_any (.slice ma mods.length mc) (.slice na mods.length nc) mods mods w' (h1.only0 (oW.trans o)) (h3.only0 (oW.trans o)) l1 l3; rw [decide_eq_true rfl] at this; exact this)
  have E2 := hid (fun w' (o : Only [] W w') => by have := eqm_any (.slice ka marks.length kc) (.slice ja marks.length jc) marks marks w' (h2.only0 (oW.trans o)) (h4.only0 (oW.trans o)) l2 l4; rw [decide_eq_true rfl] at this; exact this)
  obtain ⟨p, hp⟩ : ∃ p, p = w.heap.size := ⟨_, rfl⟩
  rw [← hp] at bX bR
  have BX := hid (fun w' (o : Only [] W w') => bX.only o (by simp))
  have BR := hid (fun w' (o : Only [] W w') => bR.only o (by simp))
  clear h1 h2 h3 h4 l1 l2 l3 l4 oW bX bR ne
  generalize mods.length = ml at *
  generalize marks.length = kl at *
  simp only [hV, hC] at hW ⊢
  simp only [hC] at BX BR
  obtain ⟨x0, x1, x2, x3, x4, x5, x6, x7, x8, x9, x10, _, _, _, _, _, _, _, _, _⟩ := Blk.hdr (x := ⟨fi, intra, whole, pps, fr, idr, poc, over, refs, listed, mods, f0, f1, ad, marks, ini, qp, fil, a, b⟩) (BX.out W (Only.refl [] W))
  obtain ⟨y0, y1, y2, y3, y4, y5, y6, y7, y8, y9, y10, _, _, _, _, _, _, _, _, _⟩ := Blk.hdr (x := ⟨fi, intra, whole, pps, fr, idr, poc, over, refs, listed, mods, f0, f1, ad, marks, ini, qp, fil, a', b'⟩) (BR.out W (Only.refl [] W))
  have EF := fun w => eql_fl2 f0 f1 w
  go_enter Tryd.func7, Tryd.ntmps7
  go_upto_region 1 with (fail)
  rw [← hW, ← hp]
  clear hW hp
  go_wp2_with fail
  refine (E1.out W (Only.refl [] W)).mono ?_
  rintro e w2 ⟨rfl, o2⟩
  clear x0 y0 x1 y1 x2 y2 x3 y3 x4 y4 x5 y5 x6 y6 x7 y7 x8 y8 x9 y9 x10 y10
  obtain ⟨_, _, _, _, _, _, _, _, _, _, _, x11, x12, x13, x14, _, _, _, _, _⟩ := Blk.hdr (x := ⟨fi, intra, whole, pps, fr, idr, poc, over, refs, listed, mods, f0, f1, ad, marks, ini, qp, fil, a, b⟩) (BX.out w2 o2)
  obtain ⟨_, _, _, _, _, _, _, _, _, _, _, y11, y12, y13, y14, _, _, _, _, _⟩ := Blk.hdr (x := ⟨fi, intra, whole, pps, fr, idr, poc, over, refs, listed, mods, f0, f1, ad, marks, ini, qp, fil, a', b'⟩) (BR.out w2 o2)
  go_wp2_with fail
  refine (E2.out w2 o2).mono ?_
  rintro e w3 ⟨rfl, o3⟩
  clear x11 y11 x12 y12 x13 y13 x14 y14
  have o4 := o2.trans o3
  obtain ⟨_, _, _, _, _, _, _, _, _, _, _, _, _, _, _, x15, x16, x17, x18, x19⟩ := Blk.hdr (x := ⟨fi, intra, whole, pps, fr, idr, poc, over, refs, listed, mods, f0, f1, ad, marks, ini, qp, fil, a, b⟩) (BX.out w3 o4)
  obtain ⟨_, _, _, _, _, _, _, _, _, _, _, _, _, _, _, y15, y16, y17, y18, y19⟩ := Blk.hdr (x := ⟨fi, intra, whole, pps, fr, idr, poc, over, refs, listed, mods, f0, f1, ad, marks, ini, qp, fil, a', b'⟩) (BR.out w3 o4)
  go_wp2_with fail
  go_ret
  exact ⟨rfl, OW.out.trans o4⟩
set_option maxRecDepth 100000 in
set_option maxHeartbeats 8000000 in
theorem eqh_no_b (x y : HV) (mv kv mv' kv' : Value) (w : World) (h1 : HoldsM w mv x.mods) (h2 : HoldsM w kv x.marks) (h3 : HoldsM w mv' y.mods) (h4 : HoldsM w kv' y.marks) (l1 : x.mods.length ≤ 1000000) (l2 : x.marks.length ≤ 1000000) (l3 : y.mods.length ≤ 1000000) (l4 : y.marks.length ≤ 1000000) (e0 : x.fi = y.fi) (e1 : x.intra = y.intra) (e2 : x.whole = y.whole) (e3 : x.pps = y.pps) (e4 : x.fr = y.fr) (e5 : x.idr = y.idr) (e6 : x.poc = y.poc) (e7 : x.over = y.over) (e8 : x.refs = y.refs) (e9 : x.listed = y.listed) (e10 : x.mods = y.mods) (e11 : x.f0 = y.f0) (e12 : x.f1 = y.f1) (e13 : x.ad = y.ad) (e14 : x.marks = y.marks) (e15 : x.ini = y.ini) (e16 : x.qp = y.qp) (e17 : x.fil = y.fil) (e18 : x.a = y.a) (ne : ¬ x.b = y.b) :
    Calls Tryd.prog 7 #[hV x mv kv, hV y mv' kv'] w fun e w' => e = .returned (.bool false) ∧ Only [] w w' := by
  obtain ⟨ma, mc, hmv, _⟩ := id h1
  obtain ⟨ka, kc, hkv, _⟩ := id h2
  obtain ⟨na, nc, hnv, _⟩ := id h3
  obtain ⟨ja, jc, hjv, _⟩ := id h4
  subst hmv hkv hnv hjv
  obtain ⟨fi, intra, whole, pps, fr, idr, poc, over, refs, listed, mods, f0, f1, ad, marks, ini, qp, fil, a, b⟩ := x
  obtain ⟨fi', intra', whole', pps', fr', idr', poc', over', refs', listed', mods', f0', f1', ad', marks', ini', qp', fil', a', b'⟩ := y
  dsimp only at *
  subst e0 e1 e2 e3 e4 e5 e6 e7 e8 e9 e10 e11 e12 e13 e14 e15 e16 e17 e18
  have d1 : (b == b') = false := by simpa using ne
  have d2 : decide (b = b') = false := decide_eq_false ne
  obtain ⟨W, hW⟩ : ∃ W, W = (w.alloc (.cells (hC ⟨fi, intra, whole, pps, fr, idr, poc, over, refs, listed, mods, f0, f1, ad, marks, ini, qp, fil, a, b⟩ (.slice ma mods.length mc) (.slice ka marks.length kc)).toArray 25)).alloc (.cells (hC ⟨fi, intra, whole, pps, fr, idr, poc, over, refs, listed, mods, f0, f1, ad, marks, ini, qp, fil, a, b'⟩ (.slice na mods.length nc) (.slice ja marks.length jc)).toArray 25) := ⟨_, rfl⟩
  have oW : Only [] w W := hW ▸ (((Only.refl [] w).alloc _).alloc _)
  have bX : Blk W w.heap.size 25 (hC ⟨fi, intra, whole, pps, fr, idr, poc, over, refs, listed, mods, f0, f1, ad, marks, ini, qp, fil, a, b⟩ (.slice ma mods.length mc) (.slice ka marks.length kc)).toArray := hW ▸ ((Blk.new w _ _).only ((Only.refl [] _).alloc _) (by simp))
  have bR : Blk W (w.heap.size + 1) 25 (hC ⟨fi, intra, whole, pps, fr, idr, poc, over, refs, listed, mods, f0, f1, ad, marks, ini, qp, fil, a, b'⟩ (.slice na mods.length nc) (.slice ja marks.length jc)).toArray := by
    have := Blk.new (w.alloc (.cells (hC ⟨fi, intra, whole, pps, fr, idr, poc, over, refs, listed, mods, f0, f1, ad, marks, ini, qp, fil, a, b⟩ (.slice ma mods.length mc) (.slice ka marks.length kc)).toArray 25)) 25 (hC ⟨fi, intra, whole, pps, fr, idr, poc, over, refs, listed, mods, f0, f1, ad, marks, ini, qp, fil, a, b'⟩ (.slice na mods.length nc) (.slice ja marks.length jc)).toArray
    rw [World.size_alloc] at this
    exact hW ▸ this
  have OW := hid oW
  have E1 := hid (fun w' (o : Only [] W w') => by have := eqm_any (.slice ma mods.length mc) (.slice na mods.length nc) mods mods w' (h1.only0 (oW.trans o)) (h3.only0 (oW.trans o)) l1 l3; rw [decide_eq_true rfl] at this; exact this)
  have E2 := hid (fun w' (o : Only [] W w') => by have := eqm_any (.slice ka marks.length kc) (.slice ja marks.length jc) marks marks w' (h2.only0 (oW.trans o)) (h4.only0 (oW.trans o)) l2 l4; rw [decide_eq_true rfl] at this; exact this)
  obtain ⟨p, hp⟩ : ∃ p, p = w.heap.size := ⟨_, rfl⟩
  rw [← hp] at bX bR
  have BX := hid (fun w' (o : Only [] W w') => bX.only o (by simp))
  have BR := hid (fun w' (o : Only [] W w') => bR.only o (by simp))
  clear h1 h2 h3 h4 l1 l2 l3 l4 oW bX bR ne
  generalize mods.length = ml at *
  generalize marks.length = kl at *
  simp only [hV, hC] at hW ⊢
  simp only [hC] at BX BR
  obtain ⟨x0, x1, x2, x3, x4, x5, x6, x7, x8, x9, x10, _, _, _, _, _, _, _, _, _⟩ := Blk.hdr (x := ⟨fi, intra, whole, pps, fr, idr, poc, over, refs, listed, mods, f0, f1, ad, marks, ini, qp, fil, a, b⟩) (BX.out W (Only.refl [] W))
  obtain ⟨y0, y1, y2, y3, y4, y5, y6, y7, y8, y9, y10, _, _, _, _, _, _, _, _, _⟩ := Blk.hdr (x := ⟨fi, intra, whole, pps, fr, idr, poc, over, refs, listed, mods, f0, f1, ad, marks, ini, qp, fil, a, b'⟩) (BR.out W (Only.refl [] W))
  have EF := fun w => eql_fl2 f0 f1 w
  go_enter Tryd.func7, Tryd.ntmps7
  go_upto_region 1 with (fail)
  rw [← hW, ← hp]
  clear hW hp
  go_wp2_with fail
  refine (E1.out W (Only.refl [] W)).mono ?_
  rintro e w2 ⟨rfl, o2⟩
  clear x0 y0 x1 y1 x2 y2 x3 y3 x4 y4 x5 y5 x6 y6 x7 y7 x8 y8 x9 y9 x10 y10
  obtain ⟨_, _, _, _, _, _, _, _, _, _, _, x11, x12, x13, x14, _, _, _, _, _⟩ := Blk.hdr (x := ⟨fi, intra, whole, pps, fr, idr, poc, over, refs, listed, mods, f0, f1, ad, marks, ini, qp, fil, a, b⟩) (BX.out w2 o2)
  obtain ⟨_, _, _, _, _, _, _, _, _, _, _, y11, y12, y13, y14, _, _, _, _, _⟩ := Blk.hdr (x := ⟨fi, intra, whole, pps, fr, idr, poc, over, refs, listed, mods, f0, f1, ad, marks, ini, qp, fil, a, b'⟩) (BR.out w2 o2)
  go_wp2_with fail
  refine (E2.out w2 o2).mono ?_
  rintro e w3 ⟨rfl, o3⟩
  clear x11 y11 x12 y12 x13 y13 x14 y14
  have o4 := o2.trans o3
  obtain ⟨_, _, _, _, _, _, _, _, _, _, _, _, _, _, _, x15, x16, x17, x18, x19⟩ := Blk.hdr (x := ⟨fi, intra, whole, pps, fr, idr, poc, over, refs, listed, mods, f0, f1, ad, marks, ini, qp, fil, a, b⟩) (BX.out w3 o4)
  obtain ⟨_, _, _, _, _, _, _, _, _, _, _, _, _, _, _, y15, y16, y17, y18, y19⟩ := Blk.hdr (x := ⟨fi, intra, whole, pps, fr, idr, poc, over, refs, listed, mods, f0, f1, ad, marks, ini, qp, fil, a, b'⟩) (BR.out w3 o4)
  go_wp2_with fail
  go_ret
  exact ⟨rfl, OW.out.trans o4⟩
end Go.Proofs.YtojahafmfcfpaaaDoor

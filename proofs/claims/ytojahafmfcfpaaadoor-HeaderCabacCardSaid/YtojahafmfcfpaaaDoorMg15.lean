/- The reference's Check. -/
/- The laws' helpers: equal headers are told equal. -/
import Derived.Test.YtojahafmfcfpaaaDoorMg14
import Derived.Test.YtojahafmfcfpaaaDoorHdB
import Derived.Test.YtojahafmfcfpaaaDoorMg12
import Derived.Laws.StructEq
import Derived.Deep.LoopGhost
import Derived.Test.YtojahafmfcfpaaaDoorMg5
section
set_option maxRecDepth 20000
namespace Go.Proofs.YtojahafmfcfpaaaDoor
open Go.RowKit
set_option linter.unusedVariables false
set_option linter.unusedSimpArgs false

/-- The errors of the fields, in their order. -/
def errsL (un : UN) (x : HV) : List Int :=
  [nmR true x.fi 0 (un.s.wd * un.s.ht - 1), if (un.idr && !x.intra) = true then 9 else 0, if x.pps = un.p.id then 0 else 2, nmR true x.fr 0 (2 ^ un.s.fb.toNat - 1), nmR un.idr x.idr 0 65535, nmR true x.poc 0 (2 ^ un.s.pb.toNat - 1),
   lkR (!x.intra) (!x.over), nmR x.over x.refs 1 32, lkR (!x.intra) (!x.listed), lstE x.listed false x.mods, lkR un.idr (!x.f0 && !x.f1), lkR (adH un) (!x.ad),
   lstE x.ad true x.marks, nmR (iniH un x) x.ini 0 2, nmR true (26 + un.p.qp + x.qp) 0 51, nmR un.p.db x.fil 0 2, nmR (fltH un x) x.a (-6) 6, nmR (fltH un x) x.b (-6) 6]
/-- The first of them that is one. -/
def firstN : List Int → Int
  | [] => 0
  | e :: l => if e ≠ 0 then e else firstN l
theorem firstN_append (a b : List Int) : firstN (a ++ b) = if firstN a ≠ 0 then firstN a else firstN b := by
  induction a with
  | nil => simp [firstN]
  | cons e a ih =>
    rw [List.cons_append, firstN, firstN]
    by_cases h : e = 0
    · subst h; simpa using ih
    · simp [h]
theorem nmR_num (has : Bool) (v : Int) (c : Cd) : nmR has v c.lo c.hi = numE has v c := by
  unfold nmR numE
  cases has
  · rfl
  · simp only [if_true]
    unfold numC inB
    by_cases h : c.lo ≤ v ∧ v ≤ c.hi
    · rw [if_pos (by simpa using h), if_neg (by omega)]
    · rw [if_neg (by simpa using h), if_pos (by omega)]
theorem bool_err (a b : Bool) : lkR a (!b) = flagE a b := by cases a <;> cases b <;> rfl
theorem errs_flags (un : UN) (x : HV) : lkR un.idr (!x.f0 && !x.f1) = stepE un x 7 := by
  unfold stepE flagE lkR
  cases un.idr <;> cases x.f0 <;> cases x.f1 <;> rfl
theorem firstN_errs (un : UN) (x : HV) (h : unE un = 0) : firstN (errsL un x) = checkH un x := by
  unfold checkH
  rw [if_neg (fun k => k h)]
  have e0 : nmR true x.fi 0 (un.s.wd * un.s.ht - 1) = numC (firstC un) x.fi := by rw [show (0 : Int) = (firstC un).lo from rfl, show un.s.wd * un.s.ht - 1 = (firstC un).hi from rfl, nmR_num]; rfl
  have e3 : nmR true x.fr 0 (2 ^ un.s.fb.toNat - 1) = stepE un x 0 := nmR_num true x.fr (.u un.s.fb)
  have e4 : nmR un.idr x.idr 0 65535 = stepE un x 1 := nmR_num un.idr x.idr (.ue 0 65535)
  have e5 : nmR true x.poc 0 (2 ^ un.s.pb.toNat - 1) = stepE un x 2 := nmR_num true x.poc (.u un.s.pb)
  have e6 : lkR (!x.intra) (!x.over) = stepE un x 3 := bool_err _ _
  have e7 : nmR x.over x.refs 1 32 = stepE un x 4 := nmR_num x.over x.refs (.ue 1 32)
  have e8 : lkR (!x.intra) (!x.listed) = stepE un x 5 := bool_err _ _
  have e9 : lstE x.listed false x.mods = stepE un x 6 := rfl
  have e10 := errs_flags un x
  have e11 : lkR (adH un) (!x.ad) = stepE un x 8 := bool_err _ _
  have e12 : lstE x.ad true x.marks = stepE un x 9 := rfl
  have e13 : nmR (iniH un x) x.ini 0 2 = stepE un x 10 := nmR_num (iniH un x) x.ini (.ue 0 2)
  have e14 : nmR true (26 + un.p.qp + x.qp) 0 51 = stepE un x 11 := by
    have := nmR_num true x.qp (qpC un)
    rw [show stepE un x 11 = numE true x.qp (qpC un) from rfl, ← this]
    unfold nmR inB
    have a1 : decide (0 ≤ 26 + un.p.qp + x.qp ∧ 26 + un.p.qp + x.qp ≤ 51) = decide ((qpC un).lo ≤ x.qp ∧ x.qp ≤ (qpC un).hi) := by rw [decide_eq_decide]; simp only [qpC, Cd.lo, Cd.hi]; omega
    rw [a1]
    simp only [if_true]
  have e15 : nmR un.p.db x.fil 0 2 = stepE un x 12 := nmR_num un.p.db x.fil (.ue 0 2)
  have e16 : nmR (fltH un x) x.a (-6) 6 = stepE un x 13 := nmR_num (fltH un x) x.a (.se (-6) 6)
  have e17 : nmR (fltH un x) x.b (-6) 6 = stepE un x 14 := nmR_num (fltH un x) x.b (.se (-6) 6)
  unfold errsL
  rw [e0, e3, e4, e5, e6, e7, e8, e9, e10, e11, e12, e13, e14, e15, e16, e17]
  have n3 : numC (firstC un) x.fi = 0 ∨ numC (firstC un) x.fi = 3 := by unfold numC; split <;> simp
  have hb : beginE un x = firstN [numC (firstC un) x.fi, if (un.idr && !x.intra) = true then 9 else 0, if x.pps = un.p.id then 0 else 2] := by
    unfold beginE
    generalize numC (firstC un) x.fi = nc at *
    generalize un.idr = a
    generalize x.intra = b
    rcases n3 with rfl | rfl
    · cases a <;> cases b <;> by_cases p : x.pps = un.p.id <;> simp [firstN, p]
    · cases a <;> cases b <;> by_cases p : x.pps = un.p.id <;> simp [firstN, p]
  have hr : restE un x 15 0 = firstN [stepE un x 0, stepE un x 1, stepE un x 2, stepE un x 3, stepE un x 4, stepE un x 5, stepE un x 6, stepE un x 7, stepE un x 8, stepE un x 9, stepE un x 10, stepE un x 11, stepE un x 12, stepE un x 13, stepE un x 14] := rfl
  rw [hb, hr, ← firstN_append]
  rfl
theorem firstN_drop {l : List Int} {i : Nat} {e : Int} (h : l[i]? = some e) : firstN (l.drop i) = if e ≠ 0 then e else firstN (l.drop (i + 1)) := by
  obtain ⟨hl, rfl⟩ := List.getElem?_eq_some_iff.1 h
  rw [List.drop_eq_getElem_cons hl]
  rfl
theorem eql_fl (a b : Bool) (w : World) : (binOp .eql 23 (.agg #[.bool a, .bool b]) (.agg #[.bool false, .bool false])).run Tryd.prog w = .ok (.bool (!a && !b)) w := by
  cases a <;> cases b <;> first | (go_simp; done) | kernel_rfl
theorem ref_nz (ref : Int) (h : 0 ≤ ref) : (ref != 0) = decide (0 < ref) := by
  by_cases k : ref = 0
  · subst k; rfl
  · have h1 : (ref != 0) = true := bne_iff_ne.2 k
    have h2 : decide (0 < ref) = true := decide_eq_true (by omega)
    rw [h1, h2]
theorem okP_qp {p : PV} (h : okP p = true) : -26 ≤ p.qp ∧ p.qp ≤ 25 := by
  unfold okP at h
  simp only [Bool.and_eq_true] at h
  exact inB_true h.1.1.2
theorem wrap_qp {a b : Int} (h0 : 0 ≤ 26 + a) (h1 : 26 + a ≤ 51) (b0 : -9223372036854775808 ≤ b) (b1 : b ≤ 9223372036854775807) : nmR true (wrap64 (26 + a + b)) 0 51 = nmR true (26 + a + b) 0 51 := by
  by_cases h : 26 + a + b ≤ 9223372036854775807
  · rw [wrap_in _ (by omega) (by omega)]
  · have e : wrap64 (26 + a + b) = 26 + a + b - 18446744073709551616 := by
      unfold wrap64
      omega
    rw [e]
    unfold nmR inB
    have d1 : decide (0 ≤ 26 + a + b - 18446744073709551616 ∧ 26 + a + b - 18446744073709551616 ≤ 51) = false := by simp; omega
    have d2 : decide (0 ≤ 26 + a + b ∧ 26 + a + b ≤ 51) = false := by simp; omega
    rw [d1, d2]
    rfl

end Go.Proofs.YtojahafmfcfpaaaDoor

end
section
set_option maxRecDepth 20000
namespace Go.Proofs.YtojahafmfcfpaaaDoor
open Go.RowKit
set_option linter.unusedVariables false
set_option linter.unusedSimpArgs false

theorem eql_fl2 (a b : Bool) (w : World) : (binOp .eql 23 (.agg #[.bool a, .bool b]) (.agg #[.bool a, .bool b])).run Tryd.prog w = .ok (.bool true) w := by
  cases a <;> cases b <;> first | (go_simp; done) | kernel_rfl
set_option maxRecDepth 100000 in
set_option maxHeartbeats 8000000 in
theorem eqh_any (x : HV) (mv kv mv' kv' : Value) (w : World) (h1 : HoldsM w mv x.mods) (h2 : HoldsM w kv x.marks) (h3 : HoldsM w mv' x.mods) (h4 : HoldsM w kv' x.marks) (l1 : x.mods.length ≤ 1000000) (l2 : x.marks.length ≤ 1000000) :
    Calls Tryd.prog 7 #[hV x mv kv, hV x mv' kv'] w fun e w' => e = .returned (.bool true) ∧ Only [] w w' := by
  obtain ⟨ma, mc, hmv, _⟩ := id h1
  obtain ⟨ka, kc, hkv, _⟩ := id h2
  obtain ⟨na, nc, hnv, _⟩ := id h3
  obtain ⟨ja, jc, hjv, _⟩ := id h4
  subst hmv hkv hnv hjv
  obtain ⟨W, hW⟩ : ∃ W, W = (w.alloc (.cells (hC x (.slice ma x.mods.length mc) (.slice ka x.marks.length kc)).toArray 25)).alloc (.cells (hC x (.slice na x.mods.length nc) (.slice ja x.marks.length jc)).toArray 25) := ⟨_, rfl⟩
  have oW : Only [] w W := hW ▸ (((Only.refl [] w).alloc _).alloc _)
  have bX : Blk W w.heap.size 25 (hC x (.slice ma x.mods.length mc) (.slice ka x.marks.length kc)).toArray := hW ▸ ((Blk.new w _ _).only ((Only.refl [] _).alloc _) (by simp))
  have bR : Blk W (w.heap.size + 1) 25 (hC x (.slice na x.mods.length nc) (.slice ja x.marks.length jc)).toArray := by
    have := Blk.new (w.alloc (.cells (hC x (.slice ma x.mods.length mc) (.slice ka x.marks.length kc)).toArray 25)) 25 (hC x (.slice na x.mods.length nc) (.slice ja x.marks.length jc)).toArray
    rw [World.size_alloc] at this
    exact hW ▸ this
  have OW := hid oW
  have E1 := hid (fun w' (o : Only [] W w') => by have := eqm_any (.slice ma x.mods.length mc) (.slice na x.mods.length nc) x.mods x.mods w' (h1.only0 (oW.trans o)) (h3.only0 (oW.trans o)) l1 l1; rw [decide_eq_true rfl] at this; exact this)
  have E2 := hid (fun w' (o : Only [] W w') => by have := eqm_any (.slice ka x.marks.length kc) (.slice ja x.marks.length jc) x.marks x.marks w' (h2.only0 (oW.trans o)) (h4.only0 (oW.trans o)) l2 l2; rw [decide_eq_true rfl] at this; exact this)
  obtain ⟨p, hp⟩ : ∃ p, p = w.heap.size := ⟨_, rfl⟩
  rw [← hp] at bX bR
  have BX := hid (fun w' (o : Only [] W w') => bX.only o (by simp))
  have BR := hid (fun w' (o : Only [] W w') => bR.only o (by simp))
  clear h1 h2 h3 h4 l1 l2 oW bX bR
  generalize x.mods.length = ml at *
  generalize x.marks.length = kl at *
  obtain ⟨fi, intra, whole, pps, fr, idr, poc, over, refs, listed, mods, f0, f1, ad, marks, ini, qp, fil, a, b⟩ := x
  simp only [hV, hC] at hW ⊢
  simp only [hC] at BX BR
  obtain ⟨x0, x1, x2, x3, x4, x5, x6, x7, x8, x9, x10, _, _, _, _, _, _, _, _, _⟩ := Blk.hdr (x := ⟨fi, intra, whole, pps, fr, idr, poc, over, refs, listed, mods, f0, f1, ad, marks, ini, qp, fil, a, b⟩) (BX.out W (Only.refl [] W))
  obtain ⟨y0, y1, y2, y3, y4, y5, y6, y7, y8, y9, y10, _, _, _, _, _, _, _, _, _⟩ := Blk.hdr (x := ⟨fi, intra, whole, pps, fr, idr, poc, over, refs, listed, mods, f0, f1, ad, marks, ini, qp, fil, a, b⟩) (BR.out W (Only.refl [] W))
  have EF := fun w => eql_fl2 f0 f1 w
  go_enter Tryd.func7, Tryd.ntmps7
  go_upto_region 1 with (fail)
  rw [← hW, ← hp]
  clear hW hp
  go_wp2_with fail
  refine (E1.out W (Only.refl [] W)).mono ?_
  rintro e w2 ⟨rfl, o2⟩
  clear x0 y0 x1 y1 x2 y2 x3 y3 x4 y4 x5 y5 x6 y6 x7 y7 x8 y8 x9 y9 x10 y10
  obtain ⟨_, _, _, _, _, _, _, _, _, _, _, x11, x12, x13, x14, _, _, _, _, _⟩ := Blk.hdr (x := ⟨fi, intra, whole, pps, fr, idr, poc, over, refs, listed, mods, f0, f1, ad, marks, ini, qp, fil, a, b⟩) (BX.out w2 o2)
  obtain ⟨_, _, _, _, _, _, _, _, _, _, _, y11, y12, y13, y14, _, _, _, _, _⟩ := Blk.hdr (x := ⟨fi, intra, whole, pps, fr, idr, poc, over, refs, listed, mods, f0, f1, ad, marks, ini, qp, fil, a, b⟩) (BR.out w2 o2)
  go_wp2_with fail
  refine (E2.out w2 o2).mono ?_
  rintro e w3 ⟨rfl, o3⟩
  clear x11 y11 x12 y12 x13 y13 x14 y14
  have o4 := o2.trans o3
  obtain ⟨_, _, _, _, _, _, _, _, _, _, _, _, _, _, _, x15, x16, x17, x18, x19⟩ := Blk.hdr (x := ⟨fi, intra, whole, pps, fr, idr, poc, over, refs, listed, mods, f0, f1, ad, marks, ini, qp, fil, a, b⟩) (BX.out w3 o4)
  obtain ⟨_, _, _, _, _, _, _, _, _, _, _, _, _, _, _, y15, y16, y17, y18, y19⟩ := Blk.hdr (x := ⟨fi, intra, whole, pps, fr, idr, poc, over, refs, listed, mods, f0, f1, ad, marks, ini, qp, fil, a, b⟩) (BR.out w3 o4)
  go_wp2_with fail
  go_ret
  exact ⟨rfl, OW.out.trans o4⟩
end Go.Proofs.YtojahafmfcfpaaaDoor

end

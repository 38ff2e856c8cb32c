/- The reference's Check. -/
/- The laws' helpers: equal headers are told equal. -/
import Derived.Test.YtjjjfmnhdnajkaaGreatDoorMg14
import Derived.Test.YtjjjfmnhdnajkaaGreatDoorHdB
import Derived.Test.YtjjjfmnhdnajkaaGreatDoorMg12
import Derived.Laws.StructEq
import Derived.Deep.LoopGhost
import Derived.Test.YtjjjfmnhdnajkaaGreatDoorMg5
section
set_option maxRecDepth 20000
namespace Go.Proofs.YtjjjfmnhdnajkaaGreatDoor
open Go.RowKit
set_option linter.unusedVariables false
set_option linter.unusedSimpArgs false

/-- The errors of the fields, in their order. -/
def errsL (un : UN) (x : HV) : List Int :=
  [nmR true x.fi 0 (un.s.wd * un.s.ht - 1), if (un.idr && !x.intra) = true then 9 else 0, if x.pps = un.p.id then 0 else 2, nmR true x.fr 0 (2 ^ un.s.fb.toNat - 1), nmR un.idr x.idr 0 65535, nmR true x.poc 0 (2 ^ un.s.pb.toNat - 1),
   lkR (!x.intra) (!x.over), nmR x.over x.refs 1 32, lkR (!x.intra) (!x.listed), lstE x.listed false x.mods, lkR un.idr (!x.f0 && !x.f1), lkR (adH un) (!x.ad),
   lstE x.ad true x.marks, nmR (iniH un x) x.ini 0 2, nmR true (26 + un.p.qp + x.qp) 0 51, nmR un.p.db x.fil 0 2, nmR (fltH un x) x.a (-6) 6, nmR (fltH un x) x.b (-6) 6]
/-- The first of them that is one. -/
def firstN : List Int → Int
  | [] => 0
  | e :: l => if e ≠ 0 then e else firstN l
theorem firstN_append (a b : List Int) : firstN (a ++ b) = if firstN a ≠ 0 then firstN a else firstN b := by
  induction a with
  | nil => simp [firstN]
  | cons e a ih =>
    rw [List.cons_append, firstN, firstN]
    by_cases h : e = 0
    · subst h; simpa using ih
    · simp [h]
theorem nmR_num (has : Bool) (v : Int) (c : Cd) : nmR has v c.lo c.hi = numE has v c := by
  unfold nmR numE
  cases has
  · rfl
  · simp only [if_true]
    unfold numC inB
    by_cases h : c.lo ≤ v ∧ v ≤ c.hi
    · rw [if_pos (by simpa using h), if_neg (by omega)]
    · rw [if_neg (by simpa using h), if_pos (by omega)]
theorem bool_err (a b : Bool) : lkR a (!b) = flagE a b := by cases a <;> cases b <;> rfl
theorem errs_flags (un : UN) (x : HV) : lkR un.idr (!x.f0 && !x.f1) = stepE un x 7 := by
  unfold stepE flagE lkR
  cases un.idr <;> cases x.f0 <;> cases x.f1 <;> rfl
theorem firstN_errs (un : UN) (x : HV) (h : unE un = 0) : firstN (errsL un x) = checkH un x := by
  unfold checkH
  rw [if_neg (fun k => k h)]
  have e0 : nmR true x.fi 0 (un.s.wd * un.s.ht - 1) = numC (firstC un) x.fi := by rw [show (0 : Int) = (firstC un).lo from rfl, show un.s.wd * un.s.ht - 1 = (firstC un).hi from rfl, nmR_num]; rfl
  have e3 : nmR true x.fr 0 (2 ^ un.s.fb.toNat - 1) = stepE un x 0 := nmR_num true x.fr (.u un.s.fb)
  have e4 : nmR un.idr x.idr 0 65535 = stepE un x 1 := nmR_num un.idr x.idr (.ue 0 65535)
  have e5 : nmR true x.poc 0 (2 ^ un.s.pb.toNat - 1) = stepE un x 2 := nmR_num true x.poc (.u un.s.pb)
  have e6 : lkR (!x.intra) (!x.over) = stepE un x 3 := bool_err _ _
  have e7 : nmR x.over x.refs 1 32 = stepE un x 4 := nmR_num x.over x.refs (.ue 1 32)
  have e8 : lkR (!x.intra) (!x.listed) = stepE un x 5 := bool_err _ _
  have e9 : lstE x.listed false x.mods = stepE un x 6 := rfl
  have e10 := errs_flags un x
  have e11 : lkR (adH un) (!x.ad) = stepE un x 8 := bool_err _ _
  have e12 : lstE x.ad true x.marks = stepE un x 9 := rfl
  have e13 : nmR (iniH un x) x.ini 0 2 = stepE un x 10 := nmR_num (iniH un x) x.ini (.ue 0 2)
  have e14 : nmR true (26 + un.p.qp + x.qp) 0 51 = stepE un x 11 := by
    have := nmR_num true x.qp (qpC un)
    rw [show stepE un x 11 = numE true x.qp (qpC un) from rfl, ← this]
    unfold nmR inB
    have a1 : decide (0 ≤ 26 + un.p.qp + x.qp ∧ 26 + un.p.qp + x.qp ≤ 51) = decide ((qpC un).lo ≤ x.qp ∧ x.qp ≤ (qpC un).hi) := by rw [decide_eq_decide]; simp only [qpC, Cd.lo, Cd.hi]; omega
    rw [a1]
    simp only [if_true]
  have e15 : nmR un.p.db x.fil 0 2 = stepE un x 12 := nmR_num un.p.db x.fil (.ue 0 2)
  have e16 : nmR (fltH un x) x.a (-6) 6 = stepE un x 13 := nmR_num (fltH un x) x.a (.se (-6) 6)
  have e17 : nmR (fltH un x) x.b (-6) 6 = stepE un x 14 := nmR_num (fltH un x) x.b (.se (-6) 6)
  unfold errsL
  rw [e0, e3, e4, e5, e6, e7, e8, e9, e10, e11, e12, e13, e14, e15, e16, e17]
  have n3 : numC (firstC un) x.fi = 0 ∨ numC (firstC un) x.fi = 3 := by unfold numC; split <;> simp
  have hb : beginE un x = firstN [numC (firstC un) x.fi, if (un.idr && !x.intra) = true then 9 else 0, if x.pps = un.p.id then 0 else 2] := by
    unfold beginE
    generalize numC (firstC un) x.fi = nc at *
    generalize un.idr = a
    generalize x.intra = b
    rcases n3 with rfl | rfl
    · cases a <;> cases b <;> by_cases p : x.pps = un.p.id <;> simp [firstN, p]
    · cases a <;> cases b <;> by_cases p : x.pps = un.p.id <;> simp [firstN, p]
  have hr : restE un x 15 0 = firstN [stepE un x 0, stepE un x 1, stepE un x 2, stepE un x 3, stepE un x 4, stepE un x 5, stepE un x 6, stepE un x 7, stepE un x 8, stepE un x 9, stepE un x 10, stepE un x 11, stepE un x 12, stepE un x 13, stepE un x 14] := rfl
  rw [hb, hr, ← firstN_append]
  rfl
theorem firstN_drop {l : List Int} {i : Nat} {e : Int} (h : l[i]? = some e) : firstN (l.drop i) = if e ≠ 0 then e else firstN (l.drop (i + 1)) := by
  obtain ⟨hl, rfl⟩ := List.getElem?_eq_some_iff.1 h
  rw [List.drop_eq_getElem_cons hl]
  rfl
theorem eql_fl (a b : Bool) (w : World) : (binOp .eql 32 (.agg #[.bool a, .bool b]) (.agg #[.bool false, .bool false])).run Tryz.prog w = .ok (.bool (!a && !b)) w := by
  cases a <;> cases b <;> first | (go_simp; done) | kernel_rfl
theorem ref_nz (ref : Int) (h : 0 ≤ ref) : (ref != 0) = decide (0 < ref) := by
  by_cases k : ref = 0
  · subst k; rfl
  · have h1 : (ref != 0) = true := bne_iff_ne.2 k
    have h2 : decide (0 < ref) = true := decide_eq_true (by omega)
    rw [h1, h2]
theorem okP_qp {p : PV} (h : okP p = true) : -26 ≤ p.qp ∧ p.qp ≤ 25 := by
  unfold okP at h
  simp only [Bool.and_eq_true] at h
  exact inB_true h.1.1.2
theorem wrap_qp {a b : Int} (h0 : 0 ≤ 26 + a) (h1 : 26 + a ≤ 51) (b0 : -9223372036854775808 ≤ b) (b1 : b ≤ 9223372036854775807) : nmR true (wrap64 (26 + a + b)) 0 51 = nmR true (26 + a + b) 0 51 := by
  by_cases h : 26 + a + b ≤ 9223372036854775807
  · rw [wrap_in _ (by omega) (by omega)]
  · have e : wrap64 (26 + a + b) = 26 + a + b - 18446744073709551616 := by
      unfold wrap64
      omega
    rw [e]
    unfold nmR inB
    have d1 : decide (0 ≤ 26 + a + b - 18446744073709551616 ∧ 26 + a + b - 18446744073709551616 ≤ 51) = false := by simp; omega
    have d2 : decide (0 ≤ 26 + a + b ∧ 26 + a + b ≤ 51) = false := by simp; omega
    rw [d1, d2]
    rfl

set_option maxRecDepth 100000 in
set_option maxHeartbeats 16000000 in
theorem rhcheck_any (x : HV) (un : UN) (mv kv : Value) (w : World) (h1 : HoldsM w mv x.mods) (h2 : HoldsM w kv x.marks) (o1 : OksM x.mods) (o2 : OksM x.marks) (r0 : 0 ≤ un.ref) (q0 : -9223372036854775808 ≤ x.qp) (q1 : x.qp ≤ 9223372036854775807) :
    Calls Tryz.prog 21 #[hV x mv kv, .int .u8 un.ref, .bool un.idr, pV un.p, sV un.s] w fun e w' => e = .returned (.int .i64 (checkH un x)) ∧ Only [] w w' := by
  obtain ⟨ma, mc, hmv, jm⟩ := id h1
  obtain ⟨ka, kc, hkv, jk⟩ := id h2
  clear jm jk
  have IU := hid (fun w => runit_any un.ref un.idr r0 w)
  have C6 := hid (fun w => rcheck6_any un.s w)
  have C7 := hid (fun w => rcheck7_any un.p w)
  unfold chS at C6
  unfold chP at C7
  have O1 := hid ((((Only.refl [] w).alloc (.cells (hC x mv kv).toArray 34)).alloc (.cells (pL un.p).toArray 24)).alloc (.cells (sL un.s).toArray 27))
  obtain ⟨W1, hW1⟩ : ∃ W1, W1 = ((w.alloc (.cells (hC x mv kv).toArray 34)).alloc (.cells (pL un.p).toArray 24)).alloc (.cells (sL un.s).toArray 27) := ⟨_, rfl⟩
  have e0 : isU un = (decide (un.ref ≤ 3) && (decide (0 < un.ref) || !un.idr)) := rfl
  rw [← e0] at IU
  have UE : ∀ k, k ≠ 0 → unE un = k → checkH un x = k := fun k hk h => by unfold checkH; rw [h, if_pos hk]
  rcases unE_cases un with ⟨k1, k0⟩ | ⟨k1, k2, k0⟩ | ⟨k1, k2, k3, k0⟩ | ⟨k1, k2, k3, k4, k0⟩ | ⟨k1, k2, k3, k4, k0⟩
  · rw [UE 2 (by decide) k0]
    rw [k1, if_neg (by simp)] at IU
    subst hmv hkv
    clear UE k0 k1 e0 h1 h2 C6 C7 hW1 q0 q1
    simp only [hV, hC]
    go_enter Tryz.func21, Tryz.ntmps21
    go_wp2_with fail
    refine (IU.out _).mono ?_
    rintro e w2 ⟨rfl, rfl⟩
    go_wp2_with fail
    go_ret
    exact ⟨rfl, O1.out⟩
  · rw [UE 3 (by decide) k0]
    rw [k1, if_pos rfl] at IU
    rw [if_neg (by rw [k2]; decide)] at C6
    subst hmv hkv
    have BX := hid (fun w' (o : Only [] W1 w') => (show Blk W1 w.heap.size 34 _ from hW1 ▸ ((Blk.new w _ _).only (((Only.refl [] _).alloc _).alloc _) (by simp))).only o (by simp))
    have BP := hid (fun w' (o : Only [] W1 w') => (show Blk W1 (w.heap.size + 1) 24 (pL un.p).toArray from by
      have := (Blk.new (w.alloc (.cells (hC x (.slice ma x.mods.length mc) (.slice ka x.marks.length kc)).toArray 34)) 24 (pL un.p).toArray).only ((Only.refl [] _).alloc (.cells (sL un.s).toArray 27)) (by simp)
      rw [World.size_alloc] at this
      exact hW1 ▸ this).only o (by simp))
    have BS := hid (fun w' (o : Only [] W1 w') => (show Blk W1 (w.heap.size + 1 + 1) 27 (sL un.s).toArray from by
      have := Blk.new ((w.alloc (.cells (hC x (.slice ma x.mods.length mc) (.slice ka x.marks.length kc)).toArray 34)).alloc (.cells (pL un.p).toArray 24)) 27 (sL un.s).toArray
      rw [World.size_alloc, World.size_alloc] at this
      exact hW1 ▸ this).only o (by simp))
    rw [← hW1] at O1
    clear UE k0 k1 k2 e0 h1 h2 C7 q0 q1
    simp only [hV, hC] at hW1 ⊢
    simp only [pL, sL] at hW1
    go_enter Tryz.func21, Tryz.ntmps21
    go_wp2_with fail
    rw [← hW1]
    clear hW1
    refine (IU.out _).mono ?_
    rintro e w2 ⟨rfl, hw2⟩
    rw [hw2]
    clear hw2
    have OO := hid (Only.refl [] W1)
    go_wp2_with (refine load_blk rfl 27 _ rfl _ _ (sL un.s) rfl (BS.out _ OO.out) (hl_sps _ _) ?_)
    refine (C6.out _).mono ?_
    rintro e w3 ⟨rfl, h3⟩
    clear OO
    have OO := hid h3
    go_wp2_with fail
    go_ret
    exact ⟨rfl, O1.out.trans h3⟩
  · rw [UE 3 (by decide) k0]
    rw [k1, if_pos rfl] at IU
    rw [if_pos k2] at C6
    rw [if_neg (by rw [k3]; decide)] at C7
    subst hmv hkv
    have BX := hid (fun w' (o : Only [] W1 w') => (show Blk W1 w.heap.size 34 _ from hW1 ▸ ((Blk.new w _ _).only (((Only.refl [] _).alloc _).alloc _) (by simp))).only o (by simp))
    have BP := hid (fun w' (o : Only [] W1 w') => (show Blk W1 (w.heap.size + 1) 24 (pL un.p).toArray from by
      have := (Blk.new (w.alloc (.cells (hC x (.slice ma x.mods.length mc) (.slice ka x.marks.length kc)).toArray 34)) 24 (pL un.p).toArray).only ((Only.refl [] _).alloc (.cells (sL un.s).toArray 27)) (by simp)
      rw [World.size_alloc] at this
      exact hW1 ▸ this).only o (by simp))
    have BS := hid (fun w' (o : Only [] W1 w') => (show Blk W1 (w.heap.size + 1 + 1) 27 (sL un.s).toArray from by
      have := Blk.new ((w.alloc (.cells (hC x (.slice ma x.mods.length mc) (.slice ka x.marks.length kc)).toArray 34)).alloc (.cells (pL un.p).toArray 24)) 27 (sL un.s).toArray
      rw [World.size_alloc, World.size_alloc] at this
      exact hW1 ▸ this).only o (by simp))
    rw [← hW1] at O1
    clear UE k0 k1 k2 k3 e0 h1 h2 q0 q1
    simp only [hV, hC] at hW1 ⊢
    simp only [pL, sL] at hW1
    go_enter Tryz.func21, Tryz.ntmps21
    go_wp2_with fail
    rw [← hW1]
    clear hW1
    refine (IU.out _).mono ?_
    rintro e w2 ⟨rfl, hw2⟩
    rw [hw2]
    clear hw2
    have OO := hid (Only.refl [] W1)
    go_wp2_with (refine load_blk rfl 27 _ rfl _ _ (sL un.s) rfl (BS.out _ OO.out) (hl_sps _ _) ?_)
    refine (C6.out _).mono ?_
    rintro e w3 ⟨rfl, h3⟩
    clear OO
    have OO := hid h3
    go_wp2_with (refine load_blk rfl 24 _ rfl _ _ (pL un.p) rfl (BP.out _ OO.out) (hl_pps _ _) ?_)
    refine (C7.out _).mono ?_
    rintro e w4 ⟨rfl, h4⟩
    clear OO
    have OO := hid (h3.trans h4)
    clear h3 h4 C6 C7 IU
    have O9 := OO.out
    have p1 := (BP.out _ OO.out).cell (i := 1) (v := .int .i64 un.p.sps) rfl
    have s3 := (BS.out _ OO.out).cell (i := 3) (v := .int .i64 un.s.id) rfl
    go_wp2_with fail
    go_ret
    exact ⟨rfl, O1.out.trans OO.out⟩
  · rw [UE 2 (by decide) k0]
    rw [k1, if_pos rfl] at IU
    rw [if_pos k2] at C6
    rw [if_pos k3] at C7
    subst hmv hkv
    have BX := hid (fun w' (o : Only [] W1 w') => (show Blk W1 w.heap.size 34 _ from hW1 ▸ ((Blk.new w _ _).only (((Only.refl [] _).alloc _).alloc _) (by simp))).only o (by simp))
    have BP := hid (fun w' (o : Only [] W1 w') => (show Blk W1 (w.heap.size + 1) 24 (pL un.p).toArray from by
      have := (Blk.new (w.alloc (.cells (hC x (.slice ma x.mods.length mc) (.slice ka x.marks.length kc)).toArray 34)) 24 (pL un.p).toArray).only ((Only.refl [] _).alloc (.cells (sL un.s).toArray 27)) (by simp)
      rw [World.size_alloc] at this
      exact hW1 ▸ this).only o (by simp))
    have BS := hid (fun w' (o : Only [] W1 w') => (show Blk W1 (w.heap.size + 1 + 1) 27 (sL un.s).toArray from by
      have := Blk.new ((w.alloc (.cells (hC x (.slice ma x.mods.length mc) (.slice ka x.marks.length kc)).toArray 34)).alloc (.cells (pL un.p).toArray 24)) 27 (sL un.s).toArray
      rw [World.size_alloc, World.size_alloc] at this
      exact hW1 ▸ this).only o (by simp))
    rw [← hW1] at O1
    have k4' : (un.p.sps != un.s.id) = true := by simpa using k4
    clear UE k0 k1 k2 k3 k4 e0 h1 h2 q0 q1
    simp only [hV, hC] at hW1 ⊢
    simp only [pL, sL] at hW1
    go_enter Tryz.func21, Tryz.ntmps21
    go_wp2_with fail
    rw [← hW1]
    clear hW1
    refine (IU.out _).mono ?_
    rintro e w2 ⟨rfl, hw2⟩
    rw [hw2]
    clear hw2
    have OO := hid (Only.refl [] W1)
    go_wp2_with (refine load_blk rfl 27 _ rfl _ _ (sL un.s) rfl (BS.out _ OO.out) (hl_sps _ _) ?_)
    refine (C6.out _).mono ?_
    rintro e w3 ⟨rfl, h3⟩
    clear OO
    have OO := hid h3
    go_wp2_with (refine load_blk rfl 24 _ rfl _ _ (pL un.p) rfl (BP.out _ OO.out) (hl_pps _ _) ?_)
    refine (C7.out _).mono ?_
    rintro e w4 ⟨rfl, h4⟩
    clear OO
    have OO := hid (h3.trans h4)
    clear h3 h4 C6 C7 IU
    have p1 := (BP.out _ OO.out).cell (i := 1) (v := .int .i64 un.p.sps) rfl
    have s3 := (BS.out _ OO.out).cell (i := 3) (v := .int .i64 un.s.id) rfl
    go_wp2_with fail
    go_ret
    exact ⟨rfl, O1.out.trans OO.out⟩
  · rw [← firstN_errs un x k0]
    rw [k1, if_pos rfl] at IU
    rw [if_pos k2] at C6
    rw [if_pos k3] at C7
    have H1 := hid h1
    have H2 := hid h2
    have UO := unOk_cd k2 k3
    have szz := okS_size k2
    subst hmv hkv
    have BX := hid (fun w' (o : Only [] W1 w') => (show Blk W1 w.heap.size 34 _ from hW1 ▸ ((Blk.new w _ _).only (((Only.refl [] _).alloc _).alloc _) (by simp))).only o (by simp))
    have BP := hid (fun w' (o : Only [] W1 w') => (show Blk W1 (w.heap.size + 1) 24 (pL un.p).toArray from by
      have := (Blk.new (w.alloc (.cells (hC x (.slice ma x.mods.length mc) (.slice ka x.marks.length kc)).toArray 34)) 24 (pL un.p).toArray).only ((Only.refl [] _).alloc (.cells (sL un.s).toArray 27)) (by simp)
      rw [World.size_alloc] at this
      exact hW1 ▸ this).only o (by simp))
    have BS := hid (fun w' (o : Only [] W1 w') => (show Blk W1 (w.heap.size + 1 + 1) 27 (sL un.s).toArray from by
      have := Blk.new ((w.alloc (.cells (hC x (.slice ma x.mods.length mc) (.slice ka x.marks.length kc)).toArray 34)).alloc (.cells (pL un.p).toArray 24)) 27 (sL un.s).toArray
      rw [World.size_alloc, World.size_alloc] at this
      exact hW1 ▸ this).only o (by simp))
    rw [← hW1] at O1
    have k4' : (un.p.sps != un.s.id) = false := by simp [k4]
    obtain ⟨L, hL⟩ : ∃ L, L = errsL un x := ⟨_, rfl⟩
    have LL := hid hL
    rw [← hL]
    clear hL
    have q14 := wrap_qp (a := un.p.qp) (b := x.qp) (by have := okP_qp k3; omega) (by have := okP_qp k3; omega) q0 q1
    have Q14 := hid q14
    clear q14
    have FB := hid UO.1
    have PB := hid UO.2.1
    have QB := hid (show 0 ≤ 26 + un.p.qp ∧ 26 + un.p.qp ≤ 51 by have := okP_qp k3; omega)
    have SZ := hid szz
    clear szz
    clear UE k0 k1 k4 e0 h1 h2 k2 k3 UO q0 q1
    simp only [hV, hC] at hW1 ⊢
    simp only [pL, sL] at hW1
    go_enter Tryz.func21, Tryz.ntmps21
    go_wp2_with fail
    rw [← hW1]
    clear hW1
    refine (IU.out _).mono ?_
    rintro e w2 ⟨rfl, hw2⟩
    rw [hw2]
    clear hw2
    have OO := hid (Only.refl [] W1)
    go_wp2_with (refine load_blk rfl 27 _ rfl _ _ (sL un.s) rfl (BS.out _ OO.out) (hl_sps _ _) ?_)
    refine (C6.out _).mono ?_
    rintro e w3 ⟨rfl, h3⟩
    clear OO
    have OO := hid h3
    go_wp2_with (refine load_blk rfl 24 _ rfl _ _ (pL un.p) rfl (BP.out _ OO.out) (hl_pps _ _) ?_)
    refine (C7.out _).mono ?_
    rintro e w4 ⟨rfl, h4⟩
    clear OO
    have OO := hid (h3.trans h4)
    clear h3 h4 C6 C7 IU
    have p1 := (BP.out _ OO.out).cell (i := 1) (v := .int .i64 un.p.sps) rfl
    have s3 := (BS.out _ OO.out).cell (i := 3) (v := .int .i64 un.s.id) rfl
    generalize w.heap.size = hb at *
    obtain ⟨fi, intra, whole, pps, fr, idr, poc, over, refs, listed, mods, f0, f1, ad, marks, ini, qp, fil, xa, xb⟩ := x
    obtain ⟨ref, uidr, ⟨pid, psps, cab, rf, r1, pqp, pqs, pch, db, nt⟩, ⟨spr, sfl, slv, sid, fb, pb, srf, wd, ht⟩⟩ := un
    go_upto_region 13 with (fail)
    clear p1 s3 k4'
    go_cut [45] from 40 to 44 (fun s45 wx => s45 = .bool (uidr && !intra) ∧ w4 = wx)
    case first =>
      have x1 := (BX.out _ OO.out).cell (i := 1) (v := .bool intra) rfl
      cases uidr
      all_goals
        go_wp2_with fail
        go_meet
        exact ⟨by simp, rfl⟩
    case rest =>
    obtain ⟨rfl, rfl⟩ := hcut
    obtain ⟨kd, hkd⟩ : ∃ k, k = (uidr && !intra) := ⟨_, rfl⟩
    rw [← hkd]
    have KD := hid hkd
    clear hkd
    go_upto_if 45 with (fail)
    go_cut [14] from 45 to 45 (fun s14 wx => s14 = .int .i64 (if kd = true then 9 else 0) ∧ w4 = wx)
    case first =>
      cases kd
      all_goals
        go_wp2_with fail
        go_meet
        exact ⟨by simp, rfl⟩
    case rest =>
    obtain ⟨rfl, rfl⟩ := hcut
    obtain ⟨e1, he1⟩ : ∃ e : Int, e = (if kd = true then 9 else 0) := ⟨_, rfl⟩
    rw [← he1]
    have E1 := hid he1
    clear he1
    have x3 := (BX.out _ OO.out).cell (i := 3) (v := .int .i64 pps) rfl
    have p0 := (BP.out _ OO.out).cell (i := 0) (v := .int .i64 pid) rfl
    go_upto_if 50 with (fail)
    clear x3 p0
    go_cut [15, 50] from 46 to 49 (fun s15 s50 wx => s15 = .int .i64 (if pps = pid then 0 else 2) ∧ w4 = wx)
    case first =>
      by_cases hp : pps = pid
      · subst hp
        have hp' : (pps != pps) = false := by simp
        go_wp2_with fail
        go_meet
        exact ⟨by simp, rfl⟩
      · have hp' : (pps != pid) = true := by simpa using hp
        have HPN := hid hp
        clear hp
        go_wp2_with fail
        go_meet
        exact ⟨by simp [HPN.out], rfl⟩
    case rest =>
      obtain ⟨rfl, rfl⟩ := hcut
      obtain ⟨e2, he2⟩ : ∃ e : Int, e = (if pps = pid then 0 else 2) := ⟨_, rfl⟩
      rw [← he2]
      have E2 := hid he2
      clear he2
      go_upto_region 17 with (fail)
      go_cut [16] from 51 to 57 (fun s16 wx => s16 = .bool (db && decide (fil ≠ 1)) ∧ w4 = wx)
      case first =>
        have p8 := (BP.out _ OO.out).cell (i := 8) (v := .bool db) rfl
        have x17 := (BX.out _ OO.out).cell (i := 17) (v := .int .i64 fil) rfl
        cases db
        all_goals
          go_wp2_with fail
          go_meet
          exact ⟨by first | rfl | (simp; rfl), rfl⟩
      case rest =>
      obtain ⟨rfl, rfl⟩ := hcut
      obtain ⟨fl, hfl⟩ : ∃ e, e = (db && decide (fil ≠ 1)) := ⟨_, rfl⟩
      rw [← hfl]
      have FL := hid hfl
      clear hfl
      go_upto_region 18 with (fail)
      obtain ⟨nf, hnf⟩ : ∃ n : Nat, fb = (n : Int) := ⟨fb.toNat, by have := FB.out.1; omega⟩
      obtain ⟨np, hnp⟩ : ∃ n : Nat, pb = (n : Int) := ⟨pb.toNat, by have := PB.out.1; omega⟩
      subst hnf hnp
      have f16 := pow16 (n := nf) (by have := FB.out.2; omega)
      have p16 := pow16 (n := np) (by have := PB.out.2; omega)
      have HF := hid (show wrap64 (wrap64 (2 ^ nf) - 1) = 2 ^ nf - 1 from by rw [wrap_in (2 ^ nf) (by omega) (by omega), wrap_in _ (by omega) (by omega)])
      have HP := hid (show wrap64 (wrap64 (2 ^ np) - 1) = 2 ^ np - 1 from by rw [wrap_in (2 ^ np) (by omega) (by omega), wrap_in _ (by omega) (by omega)])
      obtain ⟨P, hP⟩ : ∃ P, P = wd * ht := ⟨_, rfl⟩
      have g1 : IntKind.i64.wrap (wd * ht) = P := by have := SZ.out; rw [hP]; exact IntWalk.i64_in _ ⟨by omega, by omega⟩
      have g2 : IntKind.i64.wrap (P - 1) = P - 1 := by have := SZ.out; exact IntWalk.i64_in _ ⟨by omega, by omega⟩
      have PP := hid hP
      clear hP f16 p16
      have L1 := hid (fun w h => rlist_any listed false (.slice ma mods.length mc) mods w h o1)
      have L2 := hid (fun w h => rlist_any ad true (.slice ka marks.length kc) marks w h o2)
      have HH := hid (And.intro H1.out H2.out)
      obtain ⟨uI, hUI⟩ : ∃ u, u = uidr := ⟨_, rfl⟩
      rw [← hUI]
      have UU := hid hUI
      clear hUI
      go_cut [17] from 58 to 164 (fun s17 wx => ∃ D, s17 = .slice (some ⟨D, 0, none⟩) 18 18 ∧ Blk wx D 41 (L.map (Value.int .i64)).toArray ∧ Only [] w4 wx)
      case first =>
        have q0 := QB.out.1
        have q1 := QB.out.2
        have x0 : ∀ y : OnlyOf w4, y.at.cell? ⟨hb, 0, none⟩ = some (.int .i64 fi) := fun y => (BX.out _ (OO.out.trans y.only)).cell (i := 0) rfl
        have x1 : ∀ y : OnlyOf w4, y.at.cell? ⟨hb, 1, none⟩ = some (.bool intra) := fun y => (BX.out _ (OO.out.trans y.only)).cell (i := 1) rfl
        have x4 : ∀ y : OnlyOf w4, y.at.cell? ⟨hb, 4, none⟩ = some (.int .i64 fr) := fun y => (BX.out _ (OO.out.trans y.only)).cell (i := 4) rfl
        have x5 : ∀ y : OnlyOf w4, y.at.cell? ⟨hb, 5, none⟩ = some (.int .i64 idr) := fun y => (BX.out _ (OO.out.trans y.only)).cell (i := 5) rfl
        have x6 : ∀ y : OnlyOf w4, y.at.cell? ⟨hb, 6, none⟩ = some (.int .i64 poc) := fun y => (BX.out _ (OO.out.trans y.only)).cell (i := 6) rfl
        have x7 : ∀ y : OnlyOf w4, y.at.cell? ⟨hb, 7, none⟩ = some (.bool over) := fun y => (BX.out _ (OO.out.trans y.only)).cell (i := 7) rfl
        have x8 : ∀ y : OnlyOf w4, y.at.cell? ⟨hb, 8, none⟩ = some (.int .i64 refs) := fun y => (BX.out _ (OO.out.trans y.only)).cell (i := 8) rfl
        have x9 : ∀ y : OnlyOf w4, y.at.cell? ⟨hb, 9, none⟩ = some (.bool listed) := fun y => (BX.out _ (OO.out.trans y.only)).cell (i := 9) rfl
        have x10 : ∀ y : OnlyOf w4, y.at.cell? ⟨hb, 10, none⟩ = some (.slice ma mods.length mc) := fun y => (BX.out _ (OO.out.trans y.only)).cell (i := 10) rfl
        have x11 : ∀ y : OnlyOf w4, y.at.cell? ⟨hb, 11, none⟩ = some (.bool f0) := fun y => (BX.out _ (OO.out.trans y.only)).cell (i := 11) rfl
        have x12 : ∀ y : OnlyOf w4, y.at.cell? ⟨hb, 12, none⟩ = some (.bool f1) := fun y => (BX.out _ (OO.out.trans y.only)).cell (i := 12) rfl
        have x13 : ∀ y : OnlyOf w4, y.at.cell? ⟨hb, 13, none⟩ = some (.bool ad) := fun y => (BX.out _ (OO.out.trans y.only)).cell (i := 13) rfl
        have x14 : ∀ y : OnlyOf w4, y.at.cell? ⟨hb, 14, none⟩ = some (.slice ka marks.length kc) := fun y => (BX.out _ (OO.out.trans y.only)).cell (i := 14) rfl
        have x15 : ∀ y : OnlyOf w4, y.at.cell? ⟨hb, 15, none⟩ = some (.int .i64 ini) := fun y => (BX.out _ (OO.out.trans y.only)).cell (i := 15) rfl
        have x16 : ∀ y : OnlyOf w4, y.at.cell? ⟨hb, 16, none⟩ = some (.int .i64 qp) := fun y => (BX.out _ (OO.out.trans y.only)).cell (i := 16) rfl
        have x17 : ∀ y : OnlyOf w4, y.at.cell? ⟨hb, 17, none⟩ = some (.int .i64 fil) := fun y => (BX.out _ (OO.out.trans y.only)).cell (i := 17) rfl
        have x18 : ∀ y : OnlyOf w4, y.at.cell? ⟨hb, 18, none⟩ = some (.int .i64 xa) := fun y => (BX.out _ (OO.out.trans y.only)).cell (i := 18) rfl
        have x19 : ∀ y : OnlyOf w4, y.at.cell? ⟨hb, 19, none⟩ = some (.int .i64 xb) := fun y => (BX.out _ (OO.out.trans y.only)).cell (i := 19) rfl
        have p2 : ∀ y : OnlyOf w4, y.at.cell? ⟨hb + 1, 2, none⟩ = some (.bool cab) := fun y => (BP.out _ (OO.out.trans y.only)).cell (i := 2) rfl
        have p5 : ∀ y : OnlyOf w4, y.at.cell? ⟨hb + 1, 5, none⟩ = some (.int .i64 pqp) := fun y => (BP.out _ (OO.out.trans y.only)).cell (i := 5) rfl
        have p8 : ∀ y : OnlyOf w4, y.at.cell? ⟨hb + 1, 8, none⟩ = some (.bool db) := fun y => (BP.out _ (OO.out.trans y.only)).cell (i := 8) rfl
        have s4 : ∀ y : OnlyOf w4, y.at.cell? ⟨hb + 1 + 1, 4, none⟩ = some (.int .i64 (nf : Nat)) := fun y => (BS.out _ (OO.out.trans y.only)).cell (i := 4) rfl
        have s5 : ∀ y : OnlyOf w4, y.at.cell? ⟨hb + 1 + 1, 5, none⟩ = some (.int .i64 (np : Nat)) := fun y => (BS.out _ (OO.out.trans y.only)).cell (i := 5) rfl
        have s7 : ∀ y : OnlyOf w4, y.at.cell? ⟨hb + 1 + 1, 7, none⟩ = some (.int .i64 wd) := fun y => (BS.out _ (OO.out.trans y.only)).cell (i := 7) rfl
        have s8 : ∀ y : OnlyOf w4, y.at.cell? ⟨hb + 1 + 1, 8, none⟩ = some (.int .i64 ht) := fun y => (BS.out _ (OO.out.trans y.only)).cell (i := 8) rfl
        have RZ := hid (ref_nz ref r0)
        have nf0 : (nf : Int) ≤ 16 := FB.out.2
        have np0 : (np : Int) ≤ 16 := PB.out.2
        have EF := fun w => eql_fl f0 f1 w
        refine wp_region_only_tail 106 (by kernel_rfl) (lexTailC_spec (by as_aux_lemma => kernel_rfl)) ?_
        cases cab <;> cases uI
        all_goals
          simp only [List.append_eq, List.cons_append, List.nil_append, List.take_succ_cons, List.take_zero, List.drop_succ_cons, List.drop_zero]
          repeat (go_big_quiet_step (first
            | (go_at_call 55; exact Calls.only_eq (rnumber_any _ _ _ _ _))
            | (go_at_call 56; exact Calls.only_eq (rlacks_any _ _ _))
            | (go_at_call 57; first | (with_reducible exact Calls.only_of (L1.out _ (HH.out.1.only0 (O1.out.trans (OO.out.trans (OnlyOf.only _)))))) | (with_reducible exact Calls.only_of (L2.out _ (HH.out.2.only0 (O1.out.trans (OO.out.trans (OnlyOf.only _)))))))))
          refine wpQuiet_nil ?_
          rintro _ ⟨y, rfl⟩
          go_wp2_with fail
          go_meet
          refine ⟨_, rfl, Eq.mp (congrArg (Blk _ _ _) ?_) (Blk.new _ _ _), y.only.alloc _⟩
          rw [LL.out, E1.out, E2.out, KD.out, FL.out, ← UU.out]
          (try rw [HF.out])
          (try rw [HP.out])
          (try rw [Q14.out])
          rw [PP.out]
          first
            | (simp [errsL, adH, iniH, fltH]; done)
            | (simp [errsL, adH, iniH, fltH]; rw [RZ.out])
      case rest =>
        obtain ⟨D, rfl, hBD, hOD⟩ := hcut
        have BD := hid hBD
        have OT := hid (O1.out.trans (OO.out.trans hOD))
        have LN := hid (show L.length = 18 by rw [LL.out]; rfl)
        clear hBD hOD L1 L2 HH BX BP BS OO O1 LL HF HP Q14 g1 g2 PP KD E1 E2 FL UU QB
        go_wp2_with fail
        go_loopg [18] 18 (fun g t18 wr => ∃ i : Nat, i + g = 18 ∧ t18 = .int .i64 i ∧ firstN (L.drop i) = firstN L ∧ wc = wr)
        case atStart => exact ⟨0, rfl, rfl, rfl, rfl⟩
        case round =>
          obtain ⟨i, hi, rfl, hd, rfl⟩ := hrel
          have HD := hid hd
          clear hd
          by_cases hg : gk = 0
          · obtain rfl : i = 18 := by omega
            clear hi hg
            go_wp2_with fail
            go_ret
            have := HD.out
            rw [List.drop_of_length_le (by have := LN.out; omega)] at this
            exact ⟨ret_int this, OT.out⟩
          · obtain ⟨g, rfl⟩ : ∃ g, gk = g + 1 := ⟨gk - 1, by omega⟩
            have IG := hid (show i + 1 + g = 18 by omega)
            have i0 : (0 : Int) ≤ (i : Int) := by omega
            have i1 : (i : Int) < 18 := by omega
            obtain ⟨e, he⟩ : ∃ e, L[i]? = some e := ⟨_, List.getElem?_eq_getElem (by have := LN.out; omega)⟩
            have cb := BD.out.cell (i := i) (v := .int .i64 e) (by simp [he])
            have FD := hid (firstN_drop he)
            clear hi hg he
            by_cases h0 : e = 0
            · subst h0
              go_wp2_with fail
              go_roundg g
              case measure => omega
              case rel =>
                have h1 := FD.out
                rw [HD.out, if_neg (by simp)] at h1
                exact ⟨i + 1, IG.out, by go_num, h1.symm, rfl⟩
            · have h1 := FD.out
              rw [HD.out, if_pos h0] at h1
              have H1' := hid h1
              have hne : (e != 0) = true := by simpa using h0
              clear h1 h0
              go_wp2_with fail
              go_ret
              exact ⟨ret_int H1'.out.symm, OT.out⟩
end Go.Proofs.YtjjjfmnhdnajkaaGreatDoor

end
section
set_option maxRecDepth 20000
namespace Go.Proofs.YtjjjfmnhdnajkaaGreatDoor
open Go.RowKit
set_option linter.unusedVariables false
set_option linter.unusedSimpArgs false

theorem eql_fl2 (a b : Bool) (w : World) : (binOp .eql 32 (.agg #[.bool a, .bool b]) (.agg #[.bool a, .bool b])).run Tryz.prog w = .ok (.bool true) w := by
  cases a <;> cases b <;> first | (go_simp; done) | kernel_rfl
set_option maxRecDepth 100000 in
set_option maxHeartbeats 8000000 in
theorem eqh_any (x : HV) (mv kv mv' kv' : Value) (w : World) (h1 : HoldsM w mv x.mods) (h2 : HoldsM w kv x.marks) (h3 : HoldsM w mv' x.mods) (h4 : HoldsM w kv' x.marks) (l1 : x.mods.length ≤ 1000000) (l2 : x.marks.length ≤ 1000000) :
    Calls Tryz.prog 29 #[hV x mv kv, hV x mv' kv'] w fun e w' => e = .returned (.bool true) ∧ Only [] w w' := by
  obtain ⟨ma, mc, hmv, _⟩ := id h1
  obtain ⟨ka, kc, hkv, _⟩ := id h2
  obtain ⟨na, nc, hnv, _⟩ := id h3
  obtain ⟨ja, jc, hjv, _⟩ := id h4
  subst hmv hkv hnv hjv
  obtain ⟨W, hW⟩ : ∃ W, W = (w.alloc (.cells (hC x (.slice ma x.mods.length mc) (.slice ka x.marks.length kc)).toArray 34)).alloc (.cells (hC x (.slice na x.mods.length nc) (.slice ja x.marks.length jc)).toArray 34) := ⟨_, rfl⟩
  have oW : Only [] w W := hW ▸ (((Only.refl [] w).alloc _).alloc _)
  have bX : Blk W w.heap.size 34 (hC x (.slice ma x.mods.length mc) (.slice ka x.marks.length kc)).toArray := hW ▸ ((Blk.new w _ _).only ((Only.refl [] _).alloc _) (by simp))
  have bR : Blk W (w.heap.size + 1) 34 (hC x (.slice na x.mods.length nc) (.slice ja x.marks.length jc)).toArray := by
    have := Blk.new (w.alloc (.cells (hC x (.slice ma x.mods.length mc) (.slice ka x.marks.length kc)).toArray 34)) 34 (hC x (.slice na x.mods.length nc) (.slice ja x.marks.length jc)).toArray
    rw [World.size_alloc] at this
    exact hW ▸ this
  have OW := hid oW
  have E1 := hid (fun w' (o : Only [] W w') => by have := eqm_any (.slice ma x.mods.length mc) (.slice na x.mods.length nc) x.mods x.mods w' (h1.only0 (oW.trans o)) (h3.only0 (oW.trans o)) l1 l1; rw [decide_eq_true rfl] at this; exact this)
  have E2 := hid (fun w' (o : Only [] W w') => by have := eqm_any (.slice ka x.marks.length kc) (.slice ja x.marks.length jc) x.marks x.marks w' (h2.only0 (oW.trans o)) (h4.only0 (oW.trans o)) l2 l2; rw [decide_eq_true rfl] at this; exact this)
  obtain ⟨p, hp⟩ : ∃ p, p = w.heap.size := ⟨_, rfl⟩
  rw [← hp] at bX bR
  have BX := hid (fun w' (o : Only [] W w') => bX.only o (by simp))
  have BR := hid (fun w' (o : Only [] W w') => bR.only o (by simp))
  clear h1 h2 h3 h4 l1 l2 oW bX bR
  generalize x.mods.length = ml at *
  generalize x.marks.length = kl at *
  obtain ⟨fi, intra, whole, pps, fr, idr, poc, over, refs, listed, mods, f0, f1, ad, marks, ini, qp, fil, a, b⟩ := x
  simp only [hV, hC] at hW ⊢
  simp only [hC] at BX BR
  obtain ⟨x0, x1, x2, x3, x4, x5, x6, x7, x8, x9, x10, _, _, _, _, _, _, _, _, _⟩ := Blk.hdr (x := ⟨fi, intra, whole, pps, fr, idr, poc, over, refs, listed, mods, f0, f1, ad, marks, ini, qp, fil, a, b⟩) (BX.out W (Only.refl [] W))
  obtain ⟨y0, y1, y2, y3, y4, y5, y6, y7, y8, y9, y10, _, _, _, _, _, _, _, _, _⟩ := Blk.hdr (x := ⟨fi, intra, whole, pps, fr, idr, poc, over, refs, listed, mods, f0, f1, ad, marks, ini, qp, fil, a, b⟩) (BR.out W (Only.refl [] W))
  have EF := fun w => eql_fl2 f0 f1 w
  go_enter Tryz.func29, Tryz.ntmps29
  go_upto_region 1 with (fail)
  rw [← hW, ← hp]
  clear hW hp
  go_wp2_with fail
  refine (E1.out W (Only.refl [] W)).mono ?_
  rintro e w2 ⟨rfl, o2⟩
  clear x0 y0 x1 y1 x2 y2 x3 y3 x4 y4 x5 y5 x6 y6 x7 y7 x8 y8 x9 y9 x10 y10
  obtain ⟨_, _, _, _, _, _, _, _, _, _, _, x11, x12, x13, x14, _, _, _, _, _⟩ := Blk.hdr (x := ⟨fi, intra, whole, pps, fr, idr, poc, over, refs, listed, mods, f0, f1, ad, marks, ini, qp, fil, a, b⟩) (BX.out w2 o2)
  obtain ⟨_, _, _, _, _, _, _, _, _, _, _, y11, y12, y13, y14, _, _, _, _, _⟩ := Blk.hdr (x := ⟨fi, intra, whole, pps, fr, idr, poc, over, refs, listed, mods, f0, f1, ad, marks, ini, qp, fil, a, b⟩) (BR.out w2 o2)
  go_wp2_with fail
  refine (E2.out w2 o2).mono ?_
  rintro e w3 ⟨rfl, o3⟩
  clear x11 y11 x12 y12 x13 y13 x14 y14
  have o4 := o2.trans o3
  obtain ⟨_, _, _, _, _, _, _, _, _, _, _, _, _, _, _, x15, x16, x17, x18, x19⟩ := Blk.hdr (x := ⟨fi, intra, whole, pps, fr, idr, poc, over, refs, listed, mods, f0, f1, ad, marks, ini, qp, fil, a, b⟩) (BX.out w3 o4)
  obtain ⟨_, _, _, _, _, _, _, _, _, _, _, _, _, _, _, y15, y16, y17, y18, y19⟩ := Blk.hdr (x := ⟨fi, intra, whole, pps, fr, idr, poc, over, refs, listed, mods, f0, f1, ad, marks, ini, qp, fil, a, b⟩) (BR.out w3 o4)
  go_wp2_with fail
  go_ret
  exact ⟨rfl, OW.out.trans o4⟩
end Go.Proofs.YtjjjfmnhdnajkaaGreatDoor

end

/- The program's Pieces, hasQp, checkPcm. -/
/- The program's chromaBlocks and Blocks. -/
/- The program's Blocks. -/
/- The program's Blocks, in parts. -/
/- slices.Index of Coded, slices.Clone of three types. -/
import Derived.Test.YtpmmnjeomdjakaaDoorMmb13
import Derived.Test.YtpmmnjeomdjakaaDoorMmb11
import Derived.Test.YtpmmnjeomdjakaaDoorMmb9
import Derived.Test.YtpmmnjeomdjakaaDoorMcD
import Derived.Test.YtpmmnjeomdjakaaDoorMmb8
section
set_option maxRecDepth 20000
namespace Go.Proofs.YtpmmnjeomdjakaaDoor
open Go.RowKit
set_option linter.unusedVariables false
set_option linter.unusedSimpArgs false

def accN : List Nat → Nat
  | [] => 0
  | s :: l => divN s + accN l
theorem accN_snoc (l : List Nat) (s : Nat) : accN (l ++ [s]) = accN l + divN s := by
  induction l with
  | nil => simp [accN]
  | cons x l ih => rw [List.cons_append, accN, ih, accN]; omega
theorem take_oneI' (l : List Nat) (j : Nat) (h : j < l.length) : ∃ x, l[j]? = some x ∧ l.take (j + 1) = l.take j ++ [x] := ⟨l[j], List.getElem?_eq_getElem h, List.take_succ_eq_append_getElem h⟩
theorem accN_le (l : List Nat) : accN l ≤ 4 * l.length := by
  induction l with
  | nil => simp [accN]
  | cons x l ih =>
    have h4 : divN x ≤ 4 := by unfold divN; split <;> omega
    rw [accN, List.length_cons]
    omega
/-- An array's element. -/
theorem wp_index {P : Program} {w : World} {ops : Array Oper} {rest : List Oper} {o : Oper} {a : Act} {Q : Exit → Act → World → Prop} (hg : o.guard = none) (t : TypeId) (x y : Operand) (ho : o.op = .index t x y) (xv yv v : Value) (hx : a.eval x = xv) (hy : a.eval y = yv)
    (hr : (Instr.index t xv yv).run P w = .ok v w) (h : wpList P ops Q rest (a.put o.dst v) w) : wpList P ops Q (o :: rest) a w := by
  refine wpList_plain hg fun K hK => ?_
  unfold Oper.wp execOp
  simp only [ho, hx, hy]
  simp [hr, Result.andThen]
  exact hK _ _ (by simpa using h)
theorem idx4_0 (a b c d : Value) (w : World) : (Instr.index 23 (.agg #[a, b, c, d]) (.int .i64 0)).run Tryd.prog w = .ok a w := by kernel_rfl
theorem idx4_1 (a b c d : Value) (w : World) : (Instr.index 23 (.agg #[a, b, c, d]) (.int .i64 1)).run Tryd.prog w = .ok b w := by kernel_rfl
theorem idx4_2 (a b c d : Value) (w : World) : (Instr.index 23 (.agg #[a, b, c, d]) (.int .i64 2)).run Tryd.prog w = .ok c w := by kernel_rfl
theorem idx4_3 (a b c d : Value) (w : World) : (Instr.index 23 (.agg #[a, b, c, d]) (.int .i64 3)).run Tryd.prog w = .ok d w := by kernel_rfl
theorem idx4 (s0 s1 s2 s3 : Nat) (j s : Nat) (hs : [s0, s1, s2, s3][j]? = some s) (w : World) : (Instr.index 23 (.agg #[.int .u8 s0, .int .u8 s1, .int .u8 s2, .int .u8 s3]) (.int .i64 j)).run Tryd.prog w = .ok (.int .u8 s) w := by
  match j, hs with
  | 0, hs =>
    obtain rfl : s0 = s := by simpa using hs
    exact idx4_0 _ _ _ _ w
  | 1, hs =>
    obtain rfl : s1 = s := by simpa using hs
    exact idx4_1 _ _ _ _ w
  | 2, hs =>
    obtain rfl : s2 = s := by simpa using hs
    exact idx4_2 _ _ _ _ w
  | 3, hs =>
    obtain rfl : s3 = s := by simpa using hs
    exact idx4_3 _ _ _ _ w
theorem quarterN_div (i s : Nat) : (quarterN i s).length = divN s := by
  unfold quarterN
  by_cases h0 : s = 0
  · subst h0; rfl
  · by_cases h1 : s = 1
    · subst h1; rfl
    · by_cases h2 : s = 2
      · subst h2; rfl
      · simp only [h0, h1, h2, if_false]
        match s, h0, h1, h2 with
        | n + 3, _, _, _ => rfl
theorem quartersN_len : ∀ (l : List Nat) (i : Nat), (quartersN l i).map List.length = if (l.all fun s => decide (s ≤ 3)) = true then some (accN l) else none
  | [], i => rfl
  | s :: l, i => by
    rw [quartersN, List.all_cons]
    by_cases h : 3 < s
    · rw [if_pos h, decide_eq_false (by omega)]; rfl
    · have := quartersN_len l (i + 1)
      rw [if_neg h, decide_eq_true (by omega), Bool.true_and, accN]
      cases hq : quartersN l (i + 1) with
      | none =>
        rw [hq] at this
        cases hb : (l.all fun s => decide (s ≤ 3)) with
        | true => rw [hb] at this; simp at this
        | false => rfl
      | some q =>
        rw [hq] at this
        cases hb : (l.all fun s => decide (s ≤ 3)) with
        | false => rw [hb] at this; simp at this
        | true =>
          rw [hb] at this
          simp at this
          simp [quarterN_div, this]
theorem pieces6 (l : List Nat) : piecesN 6 l = if (l.all fun s => decide (s ≤ 3)) = true then ((accN l : Int), 0) else (0, 3) := by
  have h := quartersN_len l 0
  unfold piecesN allN
  simp only [show (6 : Nat) ≠ 3 by decide, show (6 : Nat) ≠ 4 by decide, show (6 : Nat) ≠ 5 by decide, if_false, if_true]
  cases hq : quartersN l 0 with
  | none =>
    rw [hq] at h
    cases hb : (l.all fun s => decide (s ≤ 3)) with
    | true => rw [hb] at h; simp at h
    | false => rfl
  | some q =>
    rw [hq] at h
    cases hb : (l.all fun s => decide (s ≤ 3)) with
    | false => rw [hb] at h; simp at h
    | true =>
      rw [hb] at h
      simp at h
      simp [h]
theorem pieces_other (k : Nat) (l : List Nat) (h : k ≠ 6) : piecesN k l = if 3 ≤ k ∧ k ≤ 5 then (partsI k, 0) else (0, 9) := by
  unfold piecesN allN partsI
  by_cases h3 : k = 3
  · subst h3; rfl
  · by_cases h4 : k = 4
    · subst h4; rfl
    · by_cases h5 : k = 5
      · subst h5; rfl
      · simp only [h3, h4, h5, h, if_false]
        rw [if_neg (by omega)]
        rfl
set_option maxRecDepth 100000 in
set_option maxHeartbeats 4000000 in
theorem ppieces_nat (s0 s1 s2 s3 : Nat) (w : World) (hV : MbV w) (b0 : s0 ≤ 255) (b1 : s1 ≤ 255) (b2 : s2 ≤ 255) (b3 : s3 ≤ 255) :
    Calls Tryd.prog 66 #[.int .u8 6, .agg #[.int .u8 s0, .int .u8 s1, .int .u8 s2, .int .u8 s3]] w fun e w' => e = .returned (.tuple #[.int .i64 (piecesN 6 [s0, s1, s2, s3]).1, .int .i64 (piecesN 6 [s0, s1, s2, s3]).2]) ∧ Only [] w w' := by
  have VV := hid (fun w' (o : Only [] w w') (j : Nat) (hj : j < 4) => (hV.only0 o).d j hj)
  obtain ⟨W1, hW⟩ : ∃ W, W = w.alloc (.cells #[.int .u8 s0, .int .u8 s1, .int .u8 s2, .int .u8 s3] 23) := ⟨_, rfl⟩
  have BX := hid (show Blk W1 w.heap.size 23 #[.int .u8 s0, .int .u8 s1, .int .u8 s2, .int .u8 s3] from hW ▸ Blk.new w _ _)
  have oW := hid (show Only [] w W1 from hW ▸ ((Only.refl [] w).alloc _))
  obtain ⟨Z, hZ⟩ : ∃ Z, Z = w.heap.size := ⟨_, rfl⟩
  rw [← hZ] at BX
  have HW := hid hW
  have HZ := hid hZ
  have CP := hid (pparts_any 6 W1 (hV.only0 oW.out) (by omega) (by omega))
  have LD := hid (ho_s4 (w := W1) (k := Z) (off := 0) (x := ⟨s0, s1, s2, s3⟩) (fun j v hj => by rw [Nat.zero_add]; exact BX.out.cell (by simpa [sbC] using hj)))
  obtain ⟨ns, hns⟩ : ∃ ns, ns = [s0, s1, s2, s3] := ⟨_, rfl⟩
  have NL := hid (show ns.length = 4 by rw [hns]; rfl)
  have NS := hid hns
  have NB := hid (show ∀ s, s ∈ ns → s ≤ 255 by rw [hns]; intro s h; simp at h; omega)
  rw [← hns]
  obtain ⟨r, hr⟩ : ∃ r, r = piecesN 6 ns := ⟨_, rfl⟩
  rw [← hr]
  have R := hid (hr.trans (pieces6 _))
  clear hr hW hZ hV hns b0 b1 b2 b3
  go_enter Tryd.func66, Tryd.ntmps66
  go_wp2_with (refine wp_box rfl 23 (.tmp 1) rfl #[.int .u8 s0, .int .u8 s1, .int .u8 s2, .int .u8 s3] rfl HW.out HZ.out ?_; simp only [Act.put, List.setIfInBounds_toArray, List.set_cons_zero, List.set_cons_succ])
  refine CP.out.mono ?_
  rintro e w2 ⟨rfl, rfl⟩
  rw [show partsI 6 = 4 from rfl]
  go_wp2_with (refine load_atA rfl 23 (.tmp 3) rfl ⟨Z, 0, none⟩ (sbC ⟨s0, s1, s2, s3⟩) rfl LD.out ?_; simp only [Act.put, sbC, List.setIfInBounds_toArray, List.set_cons_zero, List.set_cons_succ])
  go_loopg [6, 19] 4 (fun g s t wr => ∃ j : Nat, j + g = 4 ∧ s = .int .i64 ((accN (ns.take j) : Nat) : Int) ∧ t = .int .i64 j ∧ ((ns.take j).all fun s => decide (s ≤ 3)) = true ∧ Only [] w wr)
  case atStart => exact ⟨0, rfl, rfl, rfl, rfl, oW.out⟩
  case round =>
    obtain ⟨j, hj, rfl, rfl, ht, hO⟩ := hrel
    have T := hid ht
    have O := hid hO
    have V := hid (VV.out wr hO)
    clear ht hO
    by_cases hg : gk = 0
    · obtain rfl : j = 4 := by omega
      have RR := hid (show r = ((accN (ns.take 4) : Int), 0) from by
        have e : ns.take 4 = ns := List.take_of_length_le (by rw [NL.out]; omega)
        rw [e, R.out, if_pos (by have := T.out; rwa [e] at this)])
      clear hj hg
      generalize ((accN (ns.take 4) : Nat) : Int) = acc at RR ⊢
      go_wp2_with fail
      go_ret2
      rw [RR.out]
      exact ⟨rfl, O.out⟩
    · obtain ⟨g, rfl⟩ : ∃ g, gk = g + 1 := ⟨gk - 1, by omega⟩
      have l1 : j < ns.length := by have := NL.out; omega
      obtain ⟨s, hs, T1⟩ := take_oneI' ns j l1
      have IX := hid (fun w => idx4 s0 s1 s2 s3 j s (by rw [← NS.out]; exact hs) w)
      have sb := NB.out s (List.mem_of_getElem? hs)
      have S1 := hid (List.mem_of_getElem? hs)
      have T1 := hid T1
      have i1 : (j : Int) < 4 := by omega
      have GG := hid hj
      generalize hacc : ((accN (ns.take j) : Nat) : Int) = acc
      have AA := hid hacc
      have ab : 0 ≤ acc ∧ acc ≤ 16 := by
        have h4 := accN_le (ns.take j)
        have h5 : (ns.take j).length ≤ 4 := by rw [List.length_take]; omega
        omega
      obtain ⟨ab0, ab1⟩ := ab
      clear hacc hs l1 hj hg
      by_cases h3 : s ≤ 3
      · obtain ⟨a, c, ce⟩ := V.out s (by omega)
        have s4 : s < 4 := by omega
        have sI : 0 ≤ (s : Int) ∧ (s : Int) ≤ 3 := by omega
        have d4 : divN s ≤ 4 := by unfold divN; split <;> omega
        have DD := hid (show ∃ n, n = divN s from ⟨_, rfl⟩)
        obtain ⟨dn, hdn⟩ : ∃ n, n = divN s := ⟨_, rfl⟩
        rw [← hdn] at ce d4
        have DN := hid hdn
        have SL := hid h3
        have dl : (dn : Int) ≤ 4 := by omega
        clear hdn h3 sb
        go_wp2_with (refine wp_index rfl 23 (.tmp 18) (.tmp 19) rfl _ _ _ rfl rfl (IX.out _) ?_; simp only [Act.put, List.setIfInBounds_toArray, List.set_cons_zero, List.set_cons_succ])
        go_roundg g
        case measure => omega
        case rel => exact ⟨j + 1, by have := GG.out; omega, by rw [T1.out, accN_snoc, ← DN.out]; have := AA.out; go_num, by go_num, by rw [T1.out, List.all_append, T.out]; simp [SL.out], O.out⟩
      · have d : decide ((4 : Int) ≤ (s : Int)) = true := decide_eq_true (by omega)
        have RR := hid (show r = (0, 3) from by rw [R.out, if_neg (by rw [Bool.not_eq_true, List.all_eq_false]; exact ⟨s, S1.out, by simpa using h3⟩)])
        have sI : 0 ≤ (s : Int) ∧ (s : Int) ≤ 255 := by omega
        clear h3
        go_wp2_with (refine wp_index rfl 23 (.tmp 18) (.tmp 19) rfl _ _ _ rfl rfl (IX.out _) ?_; simp only [Act.put, List.setIfInBounds_toArray, List.set_cons_zero, List.set_cons_succ])
        go_ret2
        rw [RR.out]
        exact ⟨rfl, O.out⟩
theorem ppieces_any (x : MV) (w : World) (hV : MbV w) (hx : MIn x) : Calls Tryd.prog 66 #[.int .u8 x.kind, .agg (sbC x.sb).toArray] w fun e w' => e = .returned (.tuple #[.int .i64 (piecesN x.kind.toNat (subN x.sb)).1, .int .i64 (piecesN x.kind.toNat (subN x.sb)).2]) ∧ Only [] w w' := by
  by_cases h6 : x.kind = 6
  · have h := ppieces_nat x.sb.s0.toNat x.sb.s1.toNat x.sb.s2.toNat x.sb.s3.toNat w hV (by have := (hx.s x.sb.s0 (by simp [S4.l])); omega) (by have := (hx.s x.sb.s1 (by simp [S4.l])); omega) (by have := (hx.s x.sb.s2 (by simp [S4.l])); omega) (by have := (hx.s x.sb.s3 (by simp [S4.l])); omega)
    rw [h6, sbC_nat x hx]
    exact h
  · obtain ⟨k, hk⟩ : ∃ k, k = x.kind := ⟨_, rfl⟩
    have hp := pieces_other x.kind.toNat (subN x.sb) (by have := hx.k0; omega)
    rw [← hk] at hp h6 ⊢
    have kb : 0 ≤ k ∧ k ≤ 255 := by rw [hk]; exact ⟨hx.k0, hx.k1⟩
    rw [Int.toNat_of_nonneg kb.1] at hp
    generalize piecesN k.toNat (subN x.sb) = r at *
    obtain ⟨W1, hW⟩ : ∃ W, W = w.alloc (.cells (sbC x.sb).toArray 23) := ⟨_, rfl⟩
    have oW := hid (show Only [] w W1 from hW ▸ ((Only.refl [] w).alloc _))
    have HW := hid hW
    have CP := hid (pparts_any k W1 (hV.only0 oW.out) kb.1 kb.2)
    by_cases h3 : 3 ≤ k ∧ k ≤ 5
    · rw [if_pos (by omega)] at hp
      have pk : partsI k = 1 ∨ partsI k = 2 := by
        unfold partsI
        by_cases k3 : k = 3
        · rw [if_pos k3]; exact .inl rfl
        · rw [if_neg k3, if_pos (by omega)]; exact .inr rfl
      have d6 : (k == 6) = false := by simpa using h6
      have n6 : (k != 6) = true := by simpa using h6
      generalize partsI k = p at *
      subst hp
      clear hW hk h6 h3 kb hV hx
      rcases pk with rfl | rfl
      all_goals
        go_enter Tryd.func66, Tryd.ntmps66
        go_wp2_with (refine wp_box rfl 23 (.tmp 1) rfl (sbC x.sb).toArray rfl HW.out rfl ?_; simp only [Act.put, List.setIfInBounds_toArray, List.set_cons_zero, List.set_cons_succ])
        refine CP.out.mono ?_
        rintro e w2 ⟨rfl, rfl⟩
        go_wp2_with fail
        go_ret2
        exact ⟨rfl, oW.out⟩
    · rw [if_neg (by omega)] at hp
      have pk : partsI k = 0 := by unfold partsI; rw [if_neg (by omega), if_neg (by omega), if_neg h6]
      rw [pk] at CP
      subst hp
      clear hW hk h6 h3 kb hV hx pk
      go_enter Tryd.func66, Tryd.ntmps66
      go_wp2_with (refine wp_box rfl 23 (.tmp 1) rfl (sbC x.sb).toArray rfl HW.out rfl ?_; simp only [Act.put, List.setIfInBounds_toArray, List.set_cons_zero, List.set_cons_succ])
      refine CP.out.mono ?_
      rintro e w2 ⟨rfl, rfl⟩
      go_wp2_with fail
      go_ret2
      exact ⟨rfl, oW.out⟩
def hasQ (x : MV) : Bool := decide (x.kind = 1) || (codedI x.kind && !decide (x.cbp = 0))
set_option maxRecDepth 100000 in
theorem phasqp_any (x : MV) (rv vv bv : Value) (w : World) : Calls Tryd.prog 35 #[mV x rv vv bv] w fun e w' => e = .returned (.bool (hasQ x)) ∧ Only [] w w' := by
  obtain ⟨W1, hW⟩ : ∃ W, W = w.alloc (.cells (mC x rv vv bv).toArray 28) := ⟨_, rfl⟩
  have BX := hid (show Blk W1 w.heap.size 28 (mC x rv vv bv).toArray from hW ▸ Blk.new w _ _)
  have oW := hid (show Only [] w W1 from hW ▸ ((Only.refl [] w).alloc _))
  obtain ⟨Z, hZ⟩ : ∃ Z, Z = w.heap.size := ⟨_, rfl⟩
  rw [← hZ] at BX
  have c0 := BX.out.cell (i := 0) (v := .int .u8 x.kind) rfl
  have CC := hid (phascbp_any x rv vv bv W1)
  have LD := hid (fun w' (o : Only [] W1 w') => (BX.out.only o (by simp)).cell (i := 25) (v := .int .u8 x.cbp) rfl)
  have HW := hid hW
  have HZ := hid hZ
  obtain ⟨r, hr⟩ : ∃ r, r = hasQ x := ⟨_, rfl⟩
  have R := hid hr
  rw [← hr]
  unfold hasQ at R
  clear hW hZ hr
  unfold mV
  by_cases h1 : x.kind = 1
  · have E : r = true := by rw [R.out, decide_eq_true h1, Bool.true_or]
    rw [E]
    have b1 : (x.kind == 1) = true := by simpa using h1
    clear R E h1 CC
    go_enter Tryd.func35, Tryd.ntmps35
    go_wp2_with (refine wp_box rfl 28 (.tmp 0) rfl (mC x rv vv bv).toArray rfl HW.out HZ.out ?_; simp only [Act.put, List.setIfInBounds_toArray, List.set_cons_zero, List.set_cons_succ])
    go_ret
    exact ⟨rfl, oW.out⟩
  · have E : r = (codedI x.kind && !decide (x.cbp = 0)) := by rw [R.out, decide_eq_false h1, Bool.false_or]
    have b1 : (x.kind == 1) = false := by simpa using h1
    clear R h1
    generalize hcd : codedI x.kind = cd at CC E
    subst E
    clear hcd
    cases cd
    · go_enter Tryd.func35, Tryd.ntmps35
      go_wp2_with (first
        | (refine wp_box rfl 28 (.tmp 0) rfl (mC x rv vv bv).toArray rfl HW.out HZ.out ?_; simp only [Act.put, List.setIfInBounds_toArray, List.set_cons_zero, List.set_cons_succ])
        | (refine load_atG (by kernel_rfl) 28 (.tmp 1) rfl ⟨Z, 0, none⟩ (mC x rv vv bv) rfl BX.out.mb ?_; simp only [Act.put, List.setIfInBounds_toArray, List.set_cons_zero, List.set_cons_succ]))
      refine CC.out.mono ?_
      rintro e w2 ⟨rfl, o2⟩
      have O := hid (oW.out.trans o2)
      clear o2 c0
      go_wp2_with fail
      go_ret
      exact ⟨rfl, O.out⟩
    · have e0 : decide (x.cbp = 0) = (x.cbp == 0) := rfl
      rw [e0]
      clear e0
      go_enter Tryd.func35, Tryd.ntmps35
      go_wp2_with (first
        | (refine wp_box rfl 28 (.tmp 0) rfl (mC x rv vv bv).toArray rfl HW.out HZ.out ?_; simp only [Act.put, List.setIfInBounds_toArray, List.set_cons_zero, List.set_cons_succ])
        | (refine load_atG (by kernel_rfl) 28 (.tmp 1) rfl ⟨Z, 0, none⟩ (mC x rv vv bv) rfl BX.out.mb ?_; simp only [Act.put, List.setIfInBounds_toArray, List.set_cons_zero, List.set_cons_succ]))
      refine CC.out.mono ?_
      rintro e w2 ⟨rfl, o2⟩
      have O := hid (oW.out.trans o2)
      have c25 := LD.out w2 o2
      clear o2 c0
      go_wp2_with fail
      go_ret
      exact ⟨rfl, O.out⟩
def pcmW (x : MV) : Int := absE (decide ((x.pcm.size : Int) = if x.kind = 2 then 384 else 0))
set_option maxRecDepth 100000 in
theorem ppcm_any (x : MV) (rv vv bv : Value) (w : World) : Calls Tryd.prog 37 #[mV x rv vv bv] w fun e w' => e = .returned (.int .i64 (pcmW x)) ∧ Only [] w w' := by
  obtain ⟨W1, hW⟩ : ∃ W, W = w.alloc (.cells (mC x rv vv bv).toArray 28) := ⟨_, rfl⟩
  have BX := hid (show Blk W1 w.heap.size 28 (mC x rv vv bv).toArray from hW ▸ Blk.new w _ _)
  have oW := hid (show Only [] w W1 from hW ▸ ((Only.refl [] w).alloc _))
  obtain ⟨Z, hZ⟩ : ∃ Z, Z = w.heap.size := ⟨_, rfl⟩
  rw [← hZ] at BX
  have c0 := BX.out.cell (i := 0) (v := .int .u8 x.kind) rfl
  have c28 := BX.out.cell (i := 28) (v := .string x.pcm) rfl
  have HW := hid hW
  have HZ := hid hZ
  unfold pcmW absE
  clear hW hZ
  unfold mV
  by_cases h2 : x.kind = 2
  · rw [if_pos h2]
    have b2 : (x.kind == 2) = true := by simpa using h2
    clear h2
    by_cases hs : (x.pcm.size : Int) = 384
    · rw [decide_eq_true hs, if_pos rfl]
      have n1 : ((x.pcm.size : Int) != 384) = false := by simpa using hs
      clear hs
      go_enter Tryd.func37, Tryd.ntmps37
      go_wp2_with (refine wp_box rfl 28 (.tmp 0) rfl (mC x rv vv bv).toArray rfl HW.out HZ.out ?_; simp only [Act.put, List.setIfInBounds_toArray, List.set_cons_zero, List.set_cons_succ])
      go_ret
      exact ⟨rfl, oW.out⟩
    · rw [decide_eq_false hs, if_neg (by decide)]
      have n1 : ((x.pcm.size : Int) != 384) = true := by simpa using hs
      have n2 : ((x.pcm.size : Int) == 384) = false := by simpa using hs
      clear hs
      go_enter Tryd.func37, Tryd.ntmps37
      go_wp2_with (refine wp_box rfl 28 (.tmp 0) rfl (mC x rv vv bv).toArray rfl HW.out HZ.out ?_; simp only [Act.put, List.setIfInBounds_toArray, List.set_cons_zero, List.set_cons_succ])
      go_ret
      exact ⟨rfl, oW.out⟩
  · rw [if_neg h2]
    have b2 : (x.kind == 2) = false := by simpa using h2
    clear h2
    by_cases hs : (x.pcm.size : Int) = 0
    · rw [decide_eq_true hs, if_pos rfl]
      have n1 : ((x.pcm.size : Int) != 0) = false := by simpa using hs
      have n2 : ((x.pcm.size : Int) == 0) = true := by simpa using hs
      clear hs
      go_enter Tryd.func37, Tryd.ntmps37
      go_wp2_with (refine wp_box rfl 28 (.tmp 0) rfl (mC x rv vv bv).toArray rfl HW.out HZ.out ?_; simp only [Act.put, List.setIfInBounds_toArray, List.set_cons_zero, List.set_cons_succ])
      go_ret
      exact ⟨rfl, oW.out⟩
    · rw [decide_eq_false hs, if_neg (by decide)]
      have n1 : ((x.pcm.size : Int) != 0) = true := by simpa using hs
      have n2 : ((x.pcm.size : Int) == 0) = false := by simpa using hs
      clear hs
      go_enter Tryd.func37, Tryd.ntmps37
      go_wp2_with (refine wp_box rfl 28 (.tmp 0) rfl (mC x rv vv bv).toArray rfl HW.out HZ.out ?_; simp only [Act.put, List.setIfInBounds_toArray, List.set_cons_zero, List.set_cons_succ])
      go_ret
      exact ⟨rfl, oW.out⟩
end Go.Proofs.YtpmmnjeomdjakaaDoor

end
section
set_option maxRecDepth 20000
namespace Go.Proofs.YtpmmnjeomdjakaaDoor
open Go.RowKit
set_option linter.unusedVariables false
set_option linter.unusedSimpArgs false

def chromaL (n : Nat) : List Cod := (if n = 0 then [] else dcB) ++ (if n = 2 then acB else [])
theorem chromaL_len (n : Nat) : (chromaL n).length ≤ 10 := by
  unfold chromaL
  split <;> split <;> simp [dcB, acB]
def acP (c k : Nat) : List Cod := acB.take (4 * c + k)
theorem acP_len (c k : Nat) : (acP c k).length ≤ 8 := Nat.le_trans (List.length_take_le' _ _) (Nat.le_of_eq rfl)
theorem acP_next (c k : Nat) (hc : c < 2) (hk : k < 4) : acP c (k + 1) = acP c k ++ [(4, (c : Int), (k : Int))] := by
  obtain rfl | rfl : c = 0 ∨ c = 1 := by omega
  all_goals
    obtain rfl | rfl | rfl | rfl : k = 0 ∨ k = 1 ∨ k = 2 ∨ k = 3 := by omega
    all_goals rfl
set_option maxHeartbeats 4000000 in
theorem pchroma_any (n : Nat) (w : World) (hn : n ≤ 15) : Calls Tryd.prog 62 #[.int .u8 n] w fun e w' => ∃ sv, e = .returned sv ∧ ColC w w' sv (chromaL n) := by
  by_cases h0 : n = 0
  · subst h0
    go_enter Tryd.func62, Tryd.ntmps62
    go_wp2_with fail
    go_ret
    exact ⟨_, rfl, ColG.nil _⟩
  · have b0 : ((n : Int) == 0) = false := by simp; omega
    have hnn : (n : Int) ≤ 15 := by omega
    obtain ⟨out, hout⟩ : ∃ l, l = chromaL n := ⟨_, rfl⟩
    rw [← hout]
    unfold chromaL at hout
    rw [if_neg h0] at hout
    have OUT := hid hout
    have N0 := hid h0
    clear h0 hout
    go_enter Tryd.func62, Tryd.ntmps62
    go_wp2_with fail
    go_loopg [3, 10] 2 (fun g s t wr => ∃ j : Nat, j + g = 2 ∧ t = .int .u8 j ∧ ColC w wr s (dcB.take j))
    case atStart => exact ⟨0, rfl, rfl, ColG.nil _⟩
    case round =>
      obtain ⟨j, hj, rfl, hX⟩ := hrel
      have X := hid hX
      clear hX
      obtain ⟨s, hs⟩ : ∃ s, s = u3 := ⟨_, rfl⟩
      rw [← hs] at X ⊢
      clear hs
      have JJ := hid hj
      by_cases hg : gk = 0
      · obtain rfl : j = 2 := by omega
        clear hj hg
        have X2 := hid (show ColC w wr s dcB from X.out)
        clear X
        by_cases h2 : n = 2
        · subst h2
          have OO := hid (show out = dcB ++ acB from OUT.out)
          clear OUT b0 hnn hn
          go_wp2_with fail
          go_loopg [3, 22] 2 (fun g s t wr => ∃ j : Nat, j + g = 2 ∧ t = .int .u8 j ∧ ColC w wr s (dcB ++ acP j 0))
          case atStart => exact ⟨0, rfl, rfl, by rw [show dcB ++ acP 0 0 = dcB from rfl]; exact X2.out⟩
          case round =>
            obtain ⟨c, hc, rfl, hX⟩ := hrel
            have X := hid hX
            clear hX X2
            obtain ⟨s2, hs⟩ : ∃ s, s = u3 := ⟨_, rfl⟩
            rw [← hs] at X ⊢
            clear hs
            have CC := hid hc
            by_cases hg : gk = 0
            · obtain rfl : c = 2 := by omega
              clear hc hg
              have X3 := hid (show ColC w wr s2 out from by rw [OO.out]; exact X.out)
              go_wp2_with fail
              go_ret
              exact ⟨_, rfl, X3.out⟩
            · obtain ⟨g2, rfl⟩ : ∃ g2, gk = g2 + 1 := ⟨gk - 1, by omega⟩
              have c1 : (c : Int) < 2 := by omega
              have c0 : 0 ≤ (c : Int) := by omega
              clear hc hg
              go_wp2_with fail
              go_loopg [3, 25] 4 (fun g s t wr => ∃ k : Nat, k + g = 4 ∧ t = .int .i64 k ∧ ColC w wr s (dcB ++ acP c k))
              case atStart => exact ⟨0, rfl, rfl, X.out⟩
              case round =>
                obtain ⟨k, hk, rfl, hY⟩ := hrel
                have Y := hid hY
                clear hY X
                obtain ⟨s3, hs⟩ : ∃ s, s = u3 := ⟨_, rfl⟩
                rw [← hs] at Y ⊢
                clear hs
                have KK := hid hk
                by_cases hg : gk = 0
                · obtain rfl : k = 4 := by omega
                  clear hk hg
                  go_wp2_with fail
                  go_roundg g2
                  case measure => omega
                  case rel => exact ⟨c + 1, by have := CC.out; omega, by go_num, by rw [show acP (c + 1) 0 = acP c 4 from by unfold acP; congr 1]; exact Y.out⟩
                · obtain ⟨g3, rfl⟩ : ∃ g3, gk = g3 + 1 := ⟨gk - 1, by omega⟩
                  have k1 : (k : Int) < 4 := by omega
                  have k0 : 0 ≤ (k : Int) := by omega
                  have QT := hid (acP_next c k (by omega) (by omega))
                  obtain ⟨sv2, w2, hrun, hcol⟩ := Y.out.one ((4, (c : Int), (k : Int)) : Cod) (by rw [List.length_append]; have := acP_len c k; have : dcB.length = 2 := rfl; omega)
                  have RUN := hid hrun
                  have COL := hid hcol
                  clear hrun hcol hk hg
                  go_wp2_with (at_builtin; refine wp_append_eq (by kernel_rfl) (.tmp 28) (.tmp 32) _ _ rfl _ _ sv2 w2 rfl rfl RUN.out ?_; simp only [Act.put, List.setIfInBounds_toArray, List.set_cons_zero, List.set_cons_succ])
                  go_roundg g3
                  case measure => omega
                  case rel => exact ⟨k + 1, by have := KK.out; omega, by go_num, by rw [QT.out, ← List.append_assoc]; exact COL.out⟩
        · have n2 : ((n : Int) == 2) = false := by simp; omega
          have n3 : ((n : Int) != 2) = true := by simp; omega
          have X3 := hid (show ColC w wr s out from by rw [OUT.out, if_neg h2, List.append_nil]; exact X2.out)
          clear h2 X2
          go_wp2_with fail
          go_ret
          exact ⟨_, rfl, X3.out⟩
      · obtain ⟨g2, rfl⟩ : ∃ g2, gk = g2 + 1 := ⟨gk - 1, by omega⟩
        have j1 : (j : Int) < 2 := by omega
        have j0 : 0 ≤ (j : Int) := by omega
        have QT := hid (show dcB.take (j + 1) = dcB.take j ++ [(3, (j : Int), 0)] from by
          obtain rfl | rfl : j = 0 ∨ j = 1 := by omega
          all_goals rfl)
        obtain ⟨sv2, w2, hrun, hcol⟩ := X.out.one ((3, (j : Int), 0) : Cod) (by have : (dcB.take j).length ≤ 2 := Nat.le_trans (List.length_take_le' _ _) (Nat.le_of_eq rfl); omega)
        have RUN := hid hrun
        have COL := hid hcol
        clear hrun hcol hj hg
        go_wp2_with (at_builtin; refine wp_append_eq (by kernel_rfl) (.tmp 13) (.tmp 16) _ _ rfl _ _ sv2 w2 rfl rfl RUN.out ?_; simp only [Act.put, List.setIfInBounds_toArray, List.set_cons_zero, List.set_cons_succ])
        go_roundg g2
        case measure => omega
        case rel => exact ⟨j + 1, by have := JJ.out; omega, by go_num, by rw [QT.out]; exact COL.out⟩
end Go.Proofs.YtpmmnjeomdjakaaDoor

end
section
set_option maxRecDepth 20000
namespace Go.Proofs.YtpmmnjeomdjakaaDoor
open Go.RowKit
set_option linter.unusedVariables false
set_option linter.unusedSimpArgs false

/-- The luma blocks before k. -/
def lumaK (cat : Int) (c : Nat) : Nat → List Cod
  | 0 => []
  | k + 1 => lumaK cat c k ++ (if c / 2 ^ (k / 4) % 2 = 1 then [(cat, 0, (k : Int))] else [])
theorem lumaK_all (cat : Int) (c : Nat) : lumaK cat c 16 = lumaB cat c 4 := by
  have e : ∀ (i : Nat), i < 4 → lumaK cat c (4 * i + 4) = lumaK cat c (4 * i) ++ (if c / 2 ^ i % 2 = 1 then quarterB cat i else []) := by
    intro i hi
    simp only [lumaK, List.append_assoc]
    rw [show (4 * i + 3) / 4 = i by omega, show (4 * i + 2) / 4 = i by omega, show (4 * i + 1) / 4 = i by omega, show 4 * i / 4 = i by omega]
    by_cases h : c / 2 ^ i % 2 = 1
    · simp only [if_pos h, quarterB, List.cons_append, List.nil_append]
      push_cast
      rfl
    · simp only [if_neg h, List.append_nil]
  have e0 := e 0 (by omega)
  have e1 := e 1 (by omega)
  have e2 := e 2 (by omega)
  have e3 := e 3 (by omega)
  simp only [Nat.mul_zero, Nat.zero_add, Nat.mul_one, Nat.reduceMul, Nat.reduceAdd] at e0 e1 e2 e3
  rw [e3, e2, e1, e0]
  simp only [lumaB, lumaK]
theorem lumaK_len (cat : Int) (c : Nat) : ∀ k, (lumaK cat c k).length ≤ k
  | 0 => Nat.le_refl _
  | k + 1 => by
    have := lumaK_len cat c k
    rw [lumaK, List.length_append]
    split <;> simp <;> omega
theorem and1_nat : ∀ n : Nat, n < 256 → bits .and .u8 (n : Int) 1 = (n : Int) % 2 := by decide +kernel
theorem and15_nat : ∀ n : Nat, n < 256 → bits .and .u8 (n : Int) 15 = (n : Int) % 16 := by decide +kernel
theorem and1_u8 (x : Int) (h0 : 0 ≤ x) (h1 : x ≤ 255) : bits .and .u8 x 1 = x % 2 := by
  obtain ⟨n, rfl⟩ := Int.eq_ofNat_of_zero_le h0
  exact and1_nat n (by omega)
theorem and15_u8 (x : Int) (h0 : 0 ≤ x) (h1 : x ≤ 255) : bits .and .u8 x 15 = x % 16 := by
  obtain ⟨n, rfl⟩ := Int.eq_ofNat_of_zero_le h0
  exact and15_nat n (by omega)
noncomputable def pblB : Code := Tryd.f23.body.getD .skip
end Go.Proofs.YtpmmnjeomdjakaaDoor

end
section
set_option maxRecDepth 20000
namespace Go.Proofs.YtpmmnjeomdjakaaDoor
open Go.RowKit
set_option linter.unusedVariables false
set_option linter.unusedSimpArgs false

set_option maxRecDepth 1000000 in
set_option maxHeartbeats 8000000 in
theorem pbl_begin (rest : Code) (Q : Exit → Act → World → Prop)  (x : MV) (rv vv bv : Value) (k : Nat) (w : World) (hk : x.kind = k) (hcd : codedI (k : Int) = true) (u1 u2 u3 u4 u5 u6 u7 u8 u9 u10 u11 u12 u13 u14 u15 u16 u17 u18 u19 u20 u21 u22 u23 u24 u25 u26 u27 u28 u29 u30 u31 u32 u33 u34 u35 u36 u37 u38 : Value)
    (hr : ∀ (Z : Nat) (W1 : World) (sv' : Value) (w' : World) (v2 v6 v7 v8 v9 v10 v11 v12 v13 v14 v15 : Value), Blk W1 Z 28 (mC x rv vv bv).toArray → Only [] w W1 ∧ w.heap.size ≤ Z → ColC W1 w' sv' (firstB k) → rest.wp Tryd.prog Q ⟨#[mV x rv vv bv, .pointer (some ⟨Z, 0, none⟩), v2, sv', .int .u8 (catB k), u5, v6, v7, v8, v9, v10, v11, v12, v13, v14, v15, u16, u17, u18, u19, u20, u21, u22, u23, u24, u25, u26, u27, u28, u29, u30, u31, u32, u33, u34, u35, u36, u37, u38], []⟩ w') :
    (endWith 5 pblB rest).wp Tryd.prog Q ⟨#[mV x rv vv bv, u1, u2, u3, u4, u5, u6, u7, u8, u9, u10, u11, u12, u13, u14, u15, u16, u17, u18, u19, u20, u21, u22, u23, u24, u25, u26, u27, u28, u29, u30, u31, u32, u33, u34, u35, u36, u37, u38], []⟩ w := by
  conv => arg 2; whnf; arg 2; whnf; arg 2; whnf; arg 2; whnf; arg 2; whnf; arg 2; whnf
  have HR := hid hr
  clear hr
  obtain ⟨W1, hW⟩ : ∃ W, W = w.alloc (.cells (mC x rv vv bv).toArray 28) := ⟨_, rfl⟩
  have BX := hid (show Blk W1 w.heap.size 28 (mC x rv vv bv).toArray from hW ▸ Blk.new w _ _)
  have oW := hid (show Only [] w W1 from hW ▸ ((Only.refl [] w).alloc _))
  obtain ⟨Z, hZ⟩ : ∃ Z, Z = w.heap.size := ⟨_, rfl⟩
  rw [← hZ] at BX
  have CC := hid (phascbp_any x rv vv bv W1)
  rw [hk, hcd] at CC
  have L0 := hid (fun w' (o : Only [] W1 w') => show w'.cell? ⟨Z, 0, none⟩ = some (.int .u8 (k : Int)) from by rw [← hk]; exact (BX.out.only o (by simp)).cell (i := 0) rfl)
  have HW := hid hW
  have HZ := hid hZ
  have KK := hid hk
  clear hW hZ hk hcd
  unfold mV at HR ⊢
  by_cases h1 : k = 1
  · subst h1
    go_wp2_with (first
      | (refine wp_box rfl 28 (.tmp 0) rfl (mC x rv vv bv).toArray rfl HW.out HZ.out ?_; simp only [Act.put, List.setIfInBounds_toArray, List.set_cons_zero, List.set_cons_succ])
      | (refine load_atA rfl 28 (.tmp 1) rfl ⟨Z, 0, none⟩ (mC x rv vv bv) rfl BX.out.mb ?_; simp only [Act.put, List.setIfInBounds_toArray, List.set_cons_zero, List.set_cons_succ]))
    refine CC.out.mono ?_
    rintro e w2 ⟨rfl, o2⟩
    have c0 := L0.out w2 o2
    have O := hid o2
    obtain ⟨sv2, w3, hrun, hcol⟩ := ColC.one (ColG.nil w2) ((0, 0, 0) : Cod) (by simp)
    have RUN := hid hrun
    have COL := hid hcol
    clear o2 hrun hcol
    go_wp2_with (at_builtin; refine wp_append_eq (by kernel_rfl) (.tmp 12) (.tmp 14) _ _ rfl _ _ sv2 w3 rfl rfl RUN.out ?_; simp only [Act.put, List.setIfInBounds_toArray, List.set_cons_zero, List.set_cons_succ])
    exact HR.out Z W1 _ _ _ _ _ _ _ _ _ _ _ _ _ BX.out ⟨oW.out, by rw [HZ.out]; exact Nat.le_refl _⟩ ⟨COL.out.row, fun g hg => Nat.le_trans O.out.size (COL.out.new g hg), O.out.trans COL.out.only⟩
  · have b1 : ((k : Int) == 1) = false := by simp; omega
    have F0 := hid (show firstB k = [] from if_neg h1)
    have C2 := hid (show catB k = 2 from if_neg h1)
    rw [F0.out, C2.out] at HR
    clear h1
    go_wp2_with (first
      | (refine wp_box rfl 28 (.tmp 0) rfl (mC x rv vv bv).toArray rfl HW.out HZ.out ?_; simp only [Act.put, List.setIfInBounds_toArray, List.set_cons_zero, List.set_cons_succ])
      | (refine load_atA rfl 28 (.tmp 1) rfl ⟨Z, 0, none⟩ (mC x rv vv bv) rfl BX.out.mb ?_; simp only [Act.put, List.setIfInBounds_toArray, List.set_cons_zero, List.set_cons_succ]))
    refine CC.out.mono ?_
    rintro e w2 ⟨rfl, o2⟩
    have c0 := L0.out w2 o2
    have O := hid o2
    clear o2
    go_wp2_with fail
    exact HR.out Z W1 _ _ _ _ _ _ _ _ _ _ _ _ _ BX.out ⟨oW.out, by rw [HZ.out]; exact Nat.le_refl _⟩ ((ColG.nil W1).step O.out)
set_option maxRecDepth 1000000 in
set_option maxHeartbeats 8000000 in
theorem pbl_luma (rest : Code) (Q : Exit → Act → World → Prop)  (Z c k : Nat) (pre : List Cod) (sv : Value) (W1 w : World) (hc : c < 256) (hp : pre.length ≤ 1) (hs : ColC W1 w sv pre) (LD : ∀ w', Only [] W1 w' → w'.cell? ⟨Z, 25, none⟩ = some (.int .u8 (c : Int))) (u0 u2 u5 u6 u7 u8 u9 u10 u11 u12 u13 u14 u15 u16 u17 u18 u19 u20 u21 u22 u23 u24 u25 u26 u27 u28 u29 u30 u31 u32 u33 u34 u35 u36 u37 u38 : Value)
    (hr : ∀ (sv' : Value) (w' : World) (v5 v16 v17 v18 v19 v20 v21 v22 v23 v24 v25 v26 v27 v28 v29 v30 v31 v32 : Value), ColC W1 w' sv' (pre ++ lumaK (catB k) c 16) → rest.wp Tryd.prog Q ⟨#[u0, .pointer (some ⟨Z, 0, none⟩), u2, sv', .int .u8 (catB k), v5, u6, u7, u8, u9, u10, u11, u12, u13, u14, u15, v16, v17, v18, v19, v20, v21, v22, v23, v24, v25, v26, v27, v28, v29, v30, v31, v32, u33, u34, u35, u36, u37, u38], []⟩ w') :
    (endWith 1 (dropSeq 5 pblB) rest).wp Tryd.prog Q ⟨#[u0, .pointer (some ⟨Z, 0, none⟩), u2, sv, .int .u8 (catB k), u5, u6, u7, u8, u9, u10, u11, u12, u13, u14, u15, u16, u17, u18, u19, u20, u21, u22, u23, u24, u25, u26, u27, u28, u29, u30, u31, u32, u33, u34, u35, u36, u37, u38], []⟩ w := by
  conv => arg 2; whnf; arg 2; whnf
  have HR := hid hr
  clear hr
  have L := hid LD
  have HS := hid hs
  have PL := hid hp
  have c0 : (0 : Int) ≤ (c : Int) := by omega
  have c1 : (c : Int) ≤ 255 := by omega
  clear LD hs hp hc
  go_wp2_with fail
  go_loopg [3, 16] 16 (fun g s t wr => ∃ j : Nat, j + g = 16 ∧ t = .int .i64 j ∧ ColC W1 wr s (pre ++ lumaK (catB k) c j))
  case atStart => exact ⟨0, rfl, rfl, by simpa [lumaK] using HS.out⟩
  case round =>
    obtain ⟨j, hj, rfl, hX⟩ := hrel
    have X := hid hX
    clear hX
    obtain ⟨s, hs⟩ : ∃ s, s = u3 := ⟨_, rfl⟩
    rw [← hs] at X ⊢
    clear hs
    by_cases hg : gk = 0
    · obtain rfl : j = 16 := by omega
      clear hj hg
      go_wp2_with fail
      exact HR.out _ _ _ _ _ _ _ _ _ _ _ _ _ _ _ _ _ _ _ _ X.out
    · obtain ⟨gg, rfl⟩ : ∃ gg, gk = gg + 1 := ⟨gk - 1, by omega⟩
      have JN := hid (show j + 1 + gg = 16 by omega)
      have cr := L.out wr X.out.only
      have j1 : (j : Int) < 16 := by omega
      have j0 : 0 ≤ (j : Int) := by omega
      have qj : j / 4 = 0 ∨ j / 4 = 1 ∨ j / 4 = 2 ∨ j / 4 = 3 := by omega
      rcases qj with qj | qj | qj | qj
      · have q4 : (j : Int) / 4 = 0 := by omega
        have q5 : Int.tdiv (j : Int) 4 = 0 := by rw [Int.tdiv_eq_ediv_of_nonneg (by omega)]; exact q4
        by_cases hb : c / 2 ^ 0 % 2 = 1
        · have LS := hid (show lumaK (catB k) c (j + 1) = lumaK (catB k) c j ++ [((catB k), 0, (j : Int))] from by rw [lumaK, show j / 4 = 0 by omega, if_pos hb])
          have hb' : bits .and .u8 ((c : Int)) 1 = 1 := by rw [and1_u8 _ (by omega) (by omega)]; simp only [Nat.reducePow] at hb; omega
          obtain ⟨sv2, w2, hrun, hcol⟩ := X.out.one ((catB k, 0, (j : Int)) : Cod) (by rw [List.length_append]; have := PL.out; have := lumaK_len (catB k) c j; omega)
          have RUN := hid hrun
          have COL := hid hcol
          clear hrun hcol hj hg hb qj
          go_wp2_with (at_builtin; refine wp_append_eq (by kernel_rfl) (.tmp 26) (.tmp 30) _ _ rfl _ _ sv2 w2 rfl rfl RUN.out ?_; simp only [Act.put, List.setIfInBounds_toArray, List.set_cons_zero, List.set_cons_succ])
          go_roundg gg
          case measure => omega
          case rel => exact ⟨j + 1, JN.out, by go_num, by rw [LS.out, ← List.append_assoc]; exact COL.out⟩
        · have LS := hid (show lumaK (catB k) c (j + 1) = lumaK (catB k) c j from by rw [lumaK, show j / 4 = 0 by omega, if_neg hb, List.append_nil])
          have hb' : bits .and .u8 ((c : Int)) 1 = 0 := by rw [and1_u8 _ (by omega) (by omega)]; simp only [Nat.reducePow] at hb; omega
          clear hj hg hb qj
          go_wp2_with fail
          go_roundg gg
          case measure => omega
          case rel => exact ⟨j + 1, JN.out, by go_num, by rw [LS.out]; exact X.out⟩
      · have q4 : (j : Int) / 4 = 1 := by omega
        have q5 : Int.tdiv (j : Int) 4 = 1 := by rw [Int.tdiv_eq_ediv_of_nonneg (by omega)]; exact q4
        by_cases hb : c / 2 ^ 1 % 2 = 1
        · have LS := hid (show lumaK (catB k) c (j + 1) = lumaK (catB k) c j ++ [((catB k), 0, (j : Int))] from by rw [lumaK, show j / 4 = 1 by omega, if_pos hb])
          have hb' : bits .and .u8 ((c : Int) / 2) 1 = 1 := by rw [and1_u8 _ (by omega) (by omega)]; simp only [Nat.reducePow] at hb; omega
          obtain ⟨sv2, w2, hrun, hcol⟩ := X.out.one ((catB k, 0, (j : Int)) : Cod) (by rw [List.length_append]; have := PL.out; have := lumaK_len (catB k) c j; omega)
          have RUN := hid hrun
          have COL := hid hcol
          clear hrun hcol hj hg hb qj
          go_wp2_with (at_builtin; refine wp_append_eq (by kernel_rfl) (.tmp 26) (.tmp 30) _ _ rfl _ _ sv2 w2 rfl rfl RUN.out ?_; simp only [Act.put, List.setIfInBounds_toArray, List.set_cons_zero, List.set_cons_succ])
          go_roundg gg
          case measure => omega
          case rel => exact ⟨j + 1, JN.out, by go_num, by rw [LS.out, ← List.append_assoc]; exact COL.out⟩
        · have LS := hid (show lumaK (catB k) c (j + 1) = lumaK (catB k) c j from by rw [lumaK, show j / 4 = 1 by omega, if_neg hb, List.append_nil])
          have hb' : bits .and .u8 ((c : Int) / 2) 1 = 0 := by rw [and1_u8 _ (by omega) (by omega)]; simp only [Nat.reducePow] at hb; omega
          clear hj hg hb qj
          go_wp2_with fail
          go_roundg gg
          case measure => omega
          case rel => exact ⟨j + 1, JN.out, by go_num, by rw [LS.out]; exact X.out⟩
      · have q4 : (j : Int) / 4 = 2 := by omega
        have q5 : Int.tdiv (j : Int) 4 = 2 := by rw [Int.tdiv_eq_ediv_of_nonneg (by omega)]; exact q4
        by_cases hb : c / 2 ^ 2 % 2 = 1
        · have LS := hid (show lumaK (catB k) c (j + 1) = lumaK (catB k) c j ++ [((catB k), 0, (j : Int))] from by rw [lumaK, show j / 4 = 2 by omega, if_pos hb])
          have hb' : bits .and .u8 ((c : Int) / 4) 1 = 1 := by rw [and1_u8 _ (by omega) (by omega)]; simp only [Nat.reducePow] at hb; omega
          obtain ⟨sv2, w2, hrun, hcol⟩ := X.out.one ((catB k, 0, (j : Int)) : Cod) (by rw [List.length_append]; have := PL.out; have := lumaK_len (catB k) c j; omega)
          have RUN := hid hrun
          have COL := hid hcol
          clear hrun hcol hj hg hb qj
          go_wp2_with (at_builtin; refine wp_append_eq (by kernel_rfl) (.tmp 26) (.tmp 30) _ _ rfl _ _ sv2 w2 rfl rfl RUN.out ?_; simp only [Act.put, List.setIfInBounds_toArray, List.set_cons_zero, List.set_cons_succ])
          go_roundg gg
          case measure => omega
          case rel => exact ⟨j + 1, JN.out, by go_num, by rw [LS.out, ← List.append_assoc]; exact COL.out⟩
        · have LS := hid (show lumaK (catB k) c (j + 1) = lumaK (catB k) c j from by rw [lumaK, show j / 4 = 2 by omega, if_neg hb, List.append_nil])
          have hb' : bits .and .u8 ((c : Int) / 4) 1 = 0 := by rw [and1_u8 _ (by omega) (by omega)]; simp only [Nat.reducePow] at hb; omega
          clear hj hg hb qj
          go_wp2_with fail
          go_roundg gg
          case measure => omega
          case rel => exact ⟨j + 1, JN.out, by go_num, by rw [LS.out]; exact X.out⟩
      · have q4 : (j : Int) / 4 = 3 := by omega
        have q5 : Int.tdiv (j : Int) 4 = 3 := by rw [Int.tdiv_eq_ediv_of_nonneg (by omega)]; exact q4
        by_cases hb : c / 2 ^ 3 % 2 = 1
        · have LS := hid (show lumaK (catB k) c (j + 1) = lumaK (catB k) c j ++ [((catB k), 0, (j : Int))] from by rw [lumaK, show j / 4 = 3 by omega, if_pos hb])
          have hb' : bits .and .u8 ((c : Int) / 8) 1 = 1 := by rw [and1_u8 _ (by omega) (by omega)]; simp only [Nat.reducePow] at hb; omega
          obtain ⟨sv2, w2, hrun, hcol⟩ := X.out.one ((catB k, 0, (j : Int)) : Cod) (by rw [List.length_append]; have := PL.out; have := lumaK_len (catB k) c j; omega)
          have RUN := hid hrun
          have COL := hid hcol
          clear hrun hcol hj hg hb qj
          go_wp2_with (at_builtin; refine wp_append_eq (by kernel_rfl) (.tmp 26) (.tmp 30) _ _ rfl _ _ sv2 w2 rfl rfl RUN.out ?_; simp only [Act.put, List.setIfInBounds_toArray, List.set_cons_zero, List.set_cons_succ])
          go_roundg gg
          case measure => omega
          case rel => exact ⟨j + 1, JN.out, by go_num, by rw [LS.out, ← List.append_assoc]; exact COL.out⟩
        · have LS := hid (show lumaK (catB k) c (j + 1) = lumaK (catB k) c j from by rw [lumaK, show j / 4 = 3 by omega, if_neg hb, List.append_nil])
          have hb' : bits .and .u8 ((c : Int) / 8) 1 = 0 := by rw [and1_u8 _ (by omega) (by omega)]; simp only [Nat.reducePow] at hb; omega
          clear hj hg hb qj
          go_wp2_with fail
          go_roundg gg
          case measure => omega
          case rel => exact ⟨j + 1, JN.out, by go_num, by rw [LS.out]; exact X.out⟩
set_option maxRecDepth 1000000 in
theorem blocks13_any (x : MV) (rv vv bv : Value) (w : World) (hV : MbV w) (hx : MIn x) : Calls Tryd.prog 23 #[mV x rv vv bv] w fun e w' => ∃ sv, e = .returned sv ∧ ColC w w' sv (whichL x) := by
  obtain ⟨k, hk⟩ := Int.eq_ofNat_of_zero_le hx.k0
  obtain ⟨c, hc⟩ := Int.eq_ofNat_of_zero_le hx.c0
  have WL : whichL x = blocksL k c := by unfold whichL; rw [hk, hc]; rfl
  have cb : c < 256 := by have := hx.c1; omega
  rw [WL]
  cases hcd : codedI (k : Int)
  · have BL : blocksL k c = [] := by unfold blocksL; rw [hcd]; rfl
    obtain ⟨W1, hW⟩ : ∃ W, W = w.alloc (.cells (mC x rv vv bv).toArray 28) := ⟨_, rfl⟩
    have oW := hid (show Only [] w W1 from hW ▸ ((Only.refl [] w).alloc _))
    have BX := hid (show Blk W1 w.heap.size 28 (mC x rv vv bv).toArray from hW ▸ Blk.new w _ _)
    obtain ⟨Z, hZ⟩ : ∃ Z, Z = w.heap.size := ⟨_, rfl⟩
    rw [← hZ] at BX
    have CC := hid (phascbp_any x rv vv bv W1)
    rw [hk, hcd] at CC
    have HW := hid hW
    have HZ := hid hZ
    rw [BL]
    clear hx hk hc hW hZ hcd WL BL cb hV
    unfold mV
    go_enter Tryd.func23, Tryd.ntmps23
    go_wp2_with (first
      | (refine wp_box rfl 28 (.tmp 0) rfl (mC x rv vv bv).toArray rfl HW.out HZ.out ?_; simp only [Act.put, List.setIfInBounds_toArray, List.set_cons_zero, List.set_cons_succ])
      | (refine load_atA rfl 28 (.tmp 1) rfl ⟨Z, 0, none⟩ (mC x rv vv bv) rfl BX.out.mb ?_; simp only [Act.put, List.setIfInBounds_toArray, List.set_cons_zero, List.set_cons_succ]))
    refine CC.out.mono ?_
    rintro e w2 ⟨rfl, o2⟩
    have O := hid o2
    clear o2
    go_wp2_with fail
    go_ret
    exact ⟨_, rfl, ⟨RowG.nil _, by simp [ownG, Value.ownBlock], oW.out.trans O.out⟩⟩
  · have BL : blocksL k c = firstB k ++ lumaK (catB k) c 16 ++ chromaL (c / 16) := by unfold blocksL chromaL; rw [if_pos hcd, lumaK_all]; simp only [List.append_assoc]
    obtain ⟨out, hout⟩ : ∃ l, l = firstB k ++ lumaK (catB k) c 16 ++ chromaL (c / 16) := ⟨_, rfl⟩
    rw [BL, ← hout]
    have OUT := hid hout
    have f1 : (firstB k).length ≤ 1 := by unfold firstB; split <;> simp
    have f2 := hid (lumaK_len (catB k) c 16)
    have F1 := hid f1
    have CB := hid cb
    have KC := hid hc
    go_enter Tryd.func23, Tryd.ntmps23
    generalize hq : (Code.seq _ _) = cc
    have hcc : cc = endWith 5 pblB (dropSeq 5 pblB) := by rw [← hq]; kernel_rfl
    rw [hcc]
    clear hq hcc
    refine pbl_begin _ _ x rv vv bv k w hk hcd _ _ _ _ _ _ _ _ _ _ _ _ _ _ _ _ _ _ _ _ _ _ _ _ _ _ _ _ _ _ _ _ _ _ _ _ _ _ (fun Z W1 s2 w2 v2 v6 v7 v8 v9 v10 v11 v12 v13 v14 v15 bX oW h2 => ?_)
    have L := hid (fun w' (o : Only [] W1 w') => show w'.cell? ⟨Z, 25, none⟩ = some (.int .u8 (c : Int)) from by rw [← KC.out]; exact (bX.only o (by simp)).cell (i := 25) rfl)
    have OW := hid oW
    rw [show dropSeq 5 pblB = endWith 1 (dropSeq 5 pblB) (dropSeq 6 pblB) from by kernel_rfl]
    refine pbl_luma _ _ Z c k _ _ W1 _ cb f1 h2 (fun w' o => L.out w' o) _ _ _ _ _ _ _ _ _ _ _ _ _ _ _ _ _ _ _ _ _ _ _ _ _ _ _ _ _ _ _ _ _ _ _ _ (fun s3 w3 v5 v16 v17 v18 v19 v20 v21 v22 v23 v24 v25 v26 v27 v28 v29 v30 v31 v32 h3 => ?_)
    have c25 := L.out w3 h3.only
    have CH := hid (fun w => pchroma_any (c / 16) w (by have := CB.out; omega))
    have H3 := hid h3
    have cn : (c : Int) ≤ 255 := by omega
    have c0 : (0 : Int) ≤ (c : Int) := by omega
    have qc : ((c / 16 : Nat) : Int) = (c : Int) / 16 := by omega
    rw [qc] at CH
    clear hx hk hc h2 h3 WL cb hcd BL f1 bX oW L hout hV KC qc
    conv => arg 2; whnf
    go_wp2_with fail
    refine (CH.out _).mono ?_
    rintro e w4 ⟨sv4, rfl, c4⟩
    obtain ⟨sv2, w2, hrun, hcol⟩ := (H3.out.step c4.only).appS cdC_ok cd_row sv4 _ (c4.row.holds cdC_ok) (by have := f2.out; have := F1.out; have := chromaL_len (c / 16); simp only [List.length_append]; omega)
    have RUN := hid hrun
    have COL := hid hcol
    clear hrun hcol c4 c25
    go_wp2_with (at_builtin; refine wp_append_eq (by kernel_rfl) (.tmp 33) (.tmp 37) _ _ rfl _ _ sv2 w2 rfl rfl RUN.out ?_; simp only [Act.put, List.setIfInBounds_toArray, List.set_cons_zero, List.set_cons_succ])
    go_ret
    refine ⟨_, rfl, ?_⟩
    rw [OUT.out]
    exact ⟨COL.out.row, fun g hg => Nat.le_trans OW.out.1.size (COL.out.new g hg), OW.out.1.trans COL.out.only⟩
end Go.Proofs.YtpmmnjeomdjakaaDoor

end
section
set_option maxRecDepth 20000
namespace Go.Proofs.YtpmmnjeomdjakaaDoor
open Go.RowKit
set_option linter.unusedVariables false
set_option linter.unusedSimpArgs false

/-- Where c is first; -1: nowhere. -/
def idxC (c : Cod) : List Cod → Int
  | [] => -1
  | x :: l => if x = c then 0 else (if idxC c l = -1 then -1 else idxC c l + 1)
theorem idxC_low (c : Cod) : ∀ l : List Cod, -1 ≤ idxC c l
  | [] => by simp [idxC]
  | x :: l => by
    have := idxC_low c l
    rw [idxC]
    split
    · omega
    · split <;> omega
theorem idxC_hit : ∀ (l : List Cod) (i : Nat) (c : Cod), l[i]? = some c → (∀ y, y ∈ l.take i → y ≠ c) → idxC c l = i := by
  intro l
  induction l with
  | nil => intro i c h; simp at h
  | cons x l ih =>
    intro i c h1 h2
    cases i with
    | zero =>
      simp at h1
      rw [idxC, if_pos h1]; rfl
    | succ i =>
      simp at h1
      have hx : ¬ x = c := h2 x (by simp)
      have := ih i c h1 (fun y hy => h2 y (by rw [List.take_succ_cons]; exact List.mem_cons_of_mem _ hy))
      rw [idxC, if_neg hx, this, if_neg (by omega)]
      omega
theorem idxC_miss : ∀ (l : List Cod) (c : Cod), (∀ y, y ∈ l → y ≠ c) → idxC c l = -1 := by
  intro l
  induction l with
  | nil => intro c h; rfl
  | cons x l ih =>
    intro c h
    rw [idxC, if_neg (h x (by simp)), if_pos (ih c (fun y hy => h y (List.mem_cons_of_mem _ hy)))]
/-- What Block finds, by the index. -/
theorem findB_idx : ∀ (l : List Cod) (bs : List (List Int)) (c : Cod), findB l bs c = if idxC c l < 0 ∨ (bs.length : Int) ≤ idxC c l then ([], false) else ((bs[(idxC c l).toNat]?).getD [], true) := by
  intro l
  induction l with
  | nil => intro bs c; rw [if_pos (.inl (by simp [idxC]))]; cases bs <;> rfl
  | cons x l ih =>
    intro bs c
    cases bs with
    | nil =>
      rw [findB_none, if_pos]
      have := idxC_low c (x :: l)
      by_cases h : idxC c (x :: l) < 0
      · exact .inl h
      · exact .inr (by simp; omega)
    | cons b bs =>
      rw [findB, idxC]
      by_cases h : x = c
      · simp only [if_pos h]
        rw [if_neg (by simp)]
        rfl
      · simp only [if_neg h]
        rw [ih]
        have hl := idxC_low c l
        by_cases h1 : idxC c l = -1
        · rw [if_pos h1, if_pos (.inl (by omega)), if_pos (.inl (by omega))]
        · rw [if_neg h1]
          by_cases h2 : (bs.length : Int) ≤ idxC c l
          · rw [if_pos (.inr h2), if_pos (.inr (by simp; omega))]
          · rw [if_neg (by omega), if_neg (by simp; omega)]
            obtain ⟨n, hn⟩ := Int.eq_ofNat_of_zero_le (by omega : 0 ≤ idxC c l)
            rw [hn]
            have : ((n : Int) + 1).toNat = n + 1 := by omega
            rw [this]
            simp
set_option maxHeartbeats 2000000 in
theorem pindex_any (a : Value) (ss : List Cod) (c : Cod) (w : World) (ha : HoldsG cdC 3 w a ss) (h1 : ss.length ≤ 1000000) :
    Calls Tryd.prog 63 #[a, cdV c] w fun e w' => e = .returned (.int .i64 (idxC c ss)) ∧ Only [] w w' := by
  have HA := hid ha
  obtain ⟨a, k, rfl, _⟩ := ha
  obtain ⟨n, hn⟩ : ∃ n, n = ss.length := ⟨_, rfl⟩
  have N1 := hid hn
  rw [← hn]
  rw [← hn] at h1
  clear hn
  obtain ⟨r, hr⟩ : ∃ r, r = idxC c ss := ⟨_, rfl⟩
  rw [← hr]
  have R := hid hr
  clear hr
  have nb : (n : Int) ≤ 1000000 := by omega
  obtain ⟨W1, hW⟩ : ∃ W, W = w.alloc (.cells (cdC c).toArray 40) := ⟨_, rfl⟩
  have BX := hid (show Blk W1 w.heap.size 40 (cdC c).toArray from hW ▸ Blk.new w _ _)
  have oW := hid (show Only [] w W1 from hW ▸ ((Only.refl [] w).alloc _))
  obtain ⟨Z, hZ⟩ : ∃ Z, Z = w.heap.size := ⟨_, rfl⟩
  rw [← hZ] at BX
  have HW := hid hW
  have HZ := hid hZ
  clear hW hZ
  unfold cdV
  go_enter Tryd.func63, Tryd.ntmps63
  go_wp2_with (refine wp_box rfl 40 (.tmp 1) rfl (cdC c).toArray rfl HW.out HZ.out ?_; simp only [Act.put, List.setIfInBounds_toArray, List.set_cons_zero, List.set_cons_succ])
  go_loopg [8] n (fun g t wr => ∃ j : Nat, j + g = n ∧ t = .int .i64 j ∧ (∀ y, y ∈ ss.take j → y ≠ c) ∧ Only [] W1 wr)
  case atStart => exact ⟨0, by omega, rfl, fun y hy => by simp at hy, Only.refl _ _⟩
  case round =>
    obtain ⟨j, hj, rfl, ht, hO⟩ := hrel
    have J := hid hj
    have T := hid ht
    have O := hid hO
    clear ht hO
    have jb : (j : Int) ≤ 1000000 := by omega
    have j0 : (0 : Int) ≤ (j : Int) := by omega
    by_cases hg : gk = 0
    · obtain rfl : j = n := by omega
      have i1 : ¬ (j : Int) < (j : Int) := by omega
      have E := R.out
      rw [idxC_miss ss c (fun y hy => T.out y (by rw [List.take_of_length_le (by have := N1.out; omega)]; exact hy))] at E
      subst E
      clear hj hg
      go_wp2_with fail
      go_ret
      exact ⟨rfl, oW.out.trans O.out⟩
    · have i1 : (j : Int) < (n : Int) := by omega
      obtain ⟨g, rfl⟩ : ∃ g, gk = g + 1 := ⟨gk - 1, by omega⟩
      have l1 : j < ss.length := by have := N1.out; omega
      obtain ⟨x, X, T1⟩ := take_oneG ss j l1
      obtain ⟨xb, xo, rfl, hx⟩ := HA.out.at X
      have x0 := (oW.out.trans O.out).cell (hx 0 (.int .u8 x.1) rfl) (by simp)
      have x1 := (oW.out.trans O.out).cell (hx 1 (.int .u8 x.2.1) rfl) (by simp)
      have x2 := (oW.out.trans O.out).cell (hx 2 (.int .i64 x.2.2) rfl) (by simp)
      rw [Nat.add_zero] at x0
      have b := BX.out.only O.out (by simp)
      have y0 := b.cell (i := 0) (v := .int .u8 c.1) rfl
      have y1 := b.cell (i := 1) (v := .int .u8 c.2.1) rfl
      have y2 := b.cell (i := 2) (v := .int .i64 c.2.2) rfl
      have EQ := eql_cod c x
      have X := hid X
      have T1 := hid T1
      clear hj hg l1 hx b
      by_cases e : c = x
      · rw [decide_eq_true e] at EQ
        have E := R.out
        rw [idxC_hit ss j c (by rw [e]; exact X.out) T.out] at E
        subst E
        clear e
        go_wp2_with fail
        go_quiet (fail)
        go_wp2_with fail
        go_ret
        exact ⟨rfl, (oW.out.trans O.out).drewN _⟩
      · rw [decide_eq_false e] at EQ
        have EE := hid e
        clear e
        go_wp2_with fail
        go_quiet (fail)
        go_wp2_with fail
        go_roundg g
        case measure => omega
        case rel => exact ⟨j + 1, by have := J.out; omega, by go_num, fun y hy => by rw [T1.out, List.mem_append] at hy; rcases hy with hy | hy; exact T.out y hy; simp at hy; subst hy; exact fun q => EE.out q.symm, O.out.drewN _⟩
def inC (x : Int) : List Value := [.int .i64 x]
theorem inC_ok : CellsN inC 1 := ⟨fun _ => rfl, fun x u h => by simp [inC] at h; subst h; rfl, by omega⟩
theorem inN_row : RowType Tryd.prog 24 3 (.int .i64 0) 1 8 := ⟨by kernel_rfl, by kernel_rfl, rfl, by omega⟩
theorem cellsG_in (l : List Int) : cellsG inC l = l.map (.int .i64) := by
  induction l with
  | nil => rfl
  | cons x l ih => rw [cellsG, ih]; rfl
theorem RowG.toI {w : World} {sv : Value} {l : List Int} (h : RowG inC 1 3 w sv l) : RowI w sv l := by
  unfold RowG at h
  rw [cellsG_in] at h
  exact h
theorem RowI.toG {w : World} {sv : Value} {l : List Int} (h : RowI w sv l) : RowG inC 1 3 w sv l := by
  unfold RowG
  rw [cellsG_in]
  exact h
/-- A copy behind an empty slice that is not nil. -/
theorem append_cloneW (w : World) (a : Addr) (c : Nat) (vs : List Int) (hb : HoldsI .i64 w (.slice (some a) vs.length c) vs) (hl : vs.length ≤ 17592186043904) :
    ∃ sv w', (Builtin.append_ #[24, 24] 24 #[.slice (some ⟨w.heap.size, 0, none⟩) 0 0, .slice (some a) vs.length c]).run Tryd.prog (w.alloc (.cells #[] 3)) = .ok sv w' ∧ RowI w' sv vs ∧ (∀ g, g ∈ ownI sv → w.heap.size ≤ g) ∧ Only [] w w' := by
  have r0 : RowG inC 1 3 (w.alloc (.cells #[] 3)) (.slice (some ⟨w.heap.size, 0, none⟩) 0 0) [] := rowG_lit inC_ok w 3 [] (by unfold maxLen; simp)
  have o0 : Only [] w (w.alloc (.cells #[] 3)) := (Only.refl [] w).alloc _
  have b0 := hb.only0 o0
  by_cases h0 : vs = []
  · subst h0
    obtain ⟨sv, w', h1, h2, h3, h4⟩ := append_rowsG inC_ok inN_row _ (.slice (some a) 0 c) [] [] r0 ⟨some a, c, rfl, Nat.zero_le _, by obtain ⟨_, _, e, _, h, _⟩ := hb; cases e; exact h, .inl rfl⟩ (by simp)
    refine ⟨sv, w', h1, h2.toI, fun g hg => ?_, o0.trans2 h3 (fun g hg => .inr (by simp [ownG, Value.ownBlock] at hg; omega))⟩
    rcases h4 g (by unfold ownI at hg; unfold ownG; cases h : sv.ownBlock <;> simp [h] at hg ⊢ <;> exact hg) with e | e
    · simp [ownG, Value.ownBlock] at e; omega
    · simp at e; omega
  · obtain ⟨b, o, k, e, _, _, hc⟩ := b0.open (List.length_pos_iff.2 h0)
    cases e
    obtain ⟨sv, w', h1, h2, h3, h4⟩ := run_append_intsW (w.alloc (.cells #[] 3)) 24 _ [] r0.toI ⟨b, o, none⟩ c vs (fun j v hj => by
      rw [List.getElem?_map] at hj
      obtain ⟨x, hx, rfl⟩ := Option.map_eq_some_iff.1 hj
      rw [addI]
      exact hc j x hx) (by simpa using hl)
    refine ⟨sv, w', h1, by simpa using h2, fun g hg => ?_, o0.trans2 h3 (fun g hg => .inr (by simp [ownI, Value.ownBlock] at hg; omega))⟩
    rcases h4 g hg with e | e
    · simp [ownI, Value.ownBlock] at e; omega
    · simp at e; omega
theorem append_cloneG {α : Type} {C : α → List Value} {n : Nat} {T E : TypeId} {z : Value} {bytes : Nat} (K : CellsN C n) (H : RowType Tryd.prog T E z n bytes) (w : World) (a : Addr) (c : Nat) (vs : List α) (hb : HoldsG C n w (.slice (some a) vs.length c) vs) (hl : vs.length ≤ 1000000) :
    ∃ sv w', (Builtin.append_ #[T, T] T #[.slice (some ⟨w.heap.size, 0, none⟩) 0 0, .slice (some a) vs.length c]).run Tryd.prog (w.alloc (.cells #[] E)) = .ok sv w' ∧ RowG C n E w' sv vs ∧ (∀ g, g ∈ ownG sv → w.heap.size ≤ g) ∧ Only [] w w' := by
  have r0 : RowG C n E (w.alloc (.cells #[] E)) (.slice (some ⟨w.heap.size, 0, none⟩) 0 0) [] := rowG_lit K w E [] (by unfold maxLen; simp)
  have o0 : Only [] w (w.alloc (.cells #[] E)) := (Only.refl [] w).alloc _
  obtain ⟨sv, w', h1, h2, h3, h4⟩ := append_rowsG K H _ (.slice (some a) vs.length c) [] vs r0 (hb.only0 o0) (by simpa using hl)
  refine ⟨sv, w', h1, h2, fun g hg => ?_, o0.trans2 h3 (fun g hg => .inr (by simp [ownG, Value.ownBlock] at hg; omega))⟩
  rcases h4 g hg with e | e
  · simp [ownG, Value.ownBlock] at e; omega
  · simp at e; omega
theorem run_bs0 (T E : TypeId) (w : World) (hT : Tryd.prog.underlying T = some (.slice E)) (hr : (Instr.buildSlice T 0 #[]).run Tryd.prog w = .ok (.slice (some ⟨w.heap.size, 0, none⟩) 0 0) (w.alloc (.cells #[] E))) : (Instr.buildSlice T 0 #[]).run Tryd.prog w = .ok (.slice (some ⟨w.heap.size, 0, none⟩) 0 0) (w.alloc (.cells #[] E)) := hr
theorem clonei_any_g (x y : Operand) (a : Option Addr) (n c : Nat) (w : World) : (eqGuard .eql 24 x y (.slice a n c) (.slice none 0 0)).run Tryd.prog w = .ok () w := by kernel_rfl
theorem clonei_any_t (n c : Nat) (w : World) : (binOp .eql 24 (.slice none n c) (.slice none 0 0)).run Tryd.prog w = .ok (.bool true) w := by kernel_rfl
theorem clonei_any_f (a : Addr) (n c : Nat) (w : World) : (binOp .eql 24 (.slice (some a) n c) (.slice none 0 0)).run Tryd.prog w = .ok (.bool false) w := by kernel_rfl
set_option maxRecDepth 100000 in
theorem clonei_any (b : Value) (vs : List Int) (w : World) (hb : HoldsI .i64 w b vs) (hl : vs.length ≤ 17592186043904) :
    Calls Tryd.prog 52 #[b] w fun e w' => ∃ sv, e = .returned sv ∧ RowI w' sv vs ∧ (∀ g, g ∈ ownI sv → w.heap.size ≤ g) ∧ Only [] w w' := by
  have HB := hid hb
  obtain ⟨a, c, rfl, _, _, h3⟩ := hb
  cases a with
  | none =>
    obtain rfl : vs = [] := by
      rcases h3 with h | ⟨_, _, h, _⟩
      · exact h
      · cases h
    clear h3 HB hl
    go_enter Tryd.func52, Tryd.ntmps52
    go_wp2_with (refine wp_bin_eq (by kernel_rfl) .eql 24 (.tmp 3) (.const (.slice none 0 0)) _ rfl _ _ _ rfl rfl (clonei_any_g _ _ _ _ _ _) (clonei_any_t _ _ _) ?_; simp only [Act.put, List.setIfInBounds_toArray, List.set_cons_zero, List.set_cons_succ])
    go_ret
    exact ⟨_, rfl, RowI.nil _, by simp [ownI, Value.ownBlock], Only.refl _ _⟩
  | some a =>
    obtain ⟨sv, w2, hrun, hrow, hown, honly⟩ := append_cloneW w a c vs HB.out hl
    have RUN := hid hrun
    have ROW := hid hrow
    have OW := hid hown
    have ON := hid honly
    clear hrun hrow hown honly h3 hl HB
    go_enter Tryd.func52, Tryd.ntmps52
    go_wp2_with (first
      | (refine wp_bin_eq (by kernel_rfl) .eql 24 (.tmp 3) (.const (.slice none 0 0)) _ rfl _ _ _ rfl rfl (clonei_any_g _ _ _ _ _ _) (clonei_any_f _ _ _ _) ?_; simp only [Act.put, List.setIfInBounds_toArray, List.set_cons_zero, List.set_cons_succ])
      | (at_builtin; refine wp_append_eq (by kernel_rfl) (.tmp 5) (.tmp 6) _ _ rfl _ _ sv w2 rfl rfl RUN.out ?_; simp only [Act.put, List.setIfInBounds_toArray, List.set_cons_zero, List.set_cons_succ]))
    go_ret
    exact ⟨_, rfl, ROW.out, OW.out, ON.out⟩
theorem clonev_any_g (x y : Operand) (a : Option Addr) (n c : Nat) (w : World) : (eqGuard .eql 25 x y (.slice a n c) (.slice none 0 0)).run Tryd.prog w = .ok () w := by kernel_rfl
theorem clonev_any_t (n c : Nat) (w : World) : (binOp .eql 25 (.slice none n c) (.slice none 0 0)).run Tryd.prog w = .ok (.bool true) w := by kernel_rfl
theorem clonev_any_f (a : Addr) (n c : Nat) (w : World) : (binOp .eql 25 (.slice (some a) n c) (.slice none 0 0)).run Tryd.prog w = .ok (.bool false) w := by kernel_rfl
set_option maxRecDepth 100000 in
theorem clonev_any (b : Value) (vs : List (Int × Int)) (w : World) (hb : HoldsG vcC 2 w b vs) (hl : vs.length ≤ 1000000) :
    Calls Tryd.prog 53 #[b] w fun e w' => ∃ sv, e = .returned sv ∧ RowG vcC 2 36 w' sv vs ∧ (∀ g, g ∈ ownG sv → w.heap.size ≤ g) ∧ Only [] w w' := by
  have HB := hid hb
  obtain ⟨a, c, rfl, _, _, h3⟩ := hb
  cases a with
  | none =>
    obtain rfl : vs = [] := by
      rcases h3 with h | ⟨_, _, h, _⟩
      · exact h
      · cases h
    clear h3 HB hl
    go_enter Tryd.func53, Tryd.ntmps53
    go_wp2_with (refine wp_bin_eq (by kernel_rfl) .eql 25 (.tmp 3) (.const (.slice none 0 0)) _ rfl _ _ _ rfl rfl (clonev_any_g _ _ _ _ _ _) (clonev_any_t _ _ _) ?_; simp only [Act.put, List.setIfInBounds_toArray, List.set_cons_zero, List.set_cons_succ])
    go_ret
    exact ⟨_, rfl, RowG.nil _, by simp [ownG, Value.ownBlock], Only.refl _ _⟩
  | some a =>
    obtain ⟨sv, w2, hrun, hrow, hown, honly⟩ := append_cloneG vcC_ok vc_row w a c vs HB.out hl
    have RUN := hid hrun
    have ROW := hid hrow
    have OW := hid hown
    have ON := hid honly
    clear hrun hrow hown honly h3 hl HB
    go_enter Tryd.func53, Tryd.ntmps53
    go_wp2_with (first
      | (refine wp_bin_eq (by kernel_rfl) .eql 25 (.tmp 3) (.const (.slice none 0 0)) _ rfl _ _ _ rfl rfl (clonev_any_g _ _ _ _ _ _) (clonev_any_f _ _ _ _) ?_; simp only [Act.put, List.setIfInBounds_toArray, List.set_cons_zero, List.set_cons_succ])
      | (at_builtin; refine wp_append_eq (by kernel_rfl) (.tmp 5) (.tmp 6) _ _ rfl _ _ sv w2 rfl rfl RUN.out ?_; simp only [Act.put, List.setIfInBounds_toArray, List.set_cons_zero, List.set_cons_succ]))
    go_ret
    exact ⟨_, rfl, ROW.out, OW.out, ON.out⟩
theorem cloneb_any_g (x y : Operand) (a : Option Addr) (n c : Nat) (w : World) : (eqGuard .eql 26 x y (.slice a n c) (.slice none 0 0)).run Tryd.prog w = .ok () w := by kernel_rfl
theorem cloneb_any_t (n c : Nat) (w : World) : (binOp .eql 26 (.slice none n c) (.slice none 0 0)).run Tryd.prog w = .ok (.bool true) w := by kernel_rfl
theorem cloneb_any_f (a : Addr) (n c : Nat) (w : World) : (binOp .eql 26 (.slice (some a) n c) (.slice none 0 0)).run Tryd.prog w = .ok (.bool false) w := by kernel_rfl
set_option maxRecDepth 100000 in
theorem cloneb_any (b : Value) (vs : List SlV) (w : World) (hb : HoldsG slC 1 w b vs) (hl : vs.length ≤ 1000000) :
    Calls Tryd.prog 54 #[b] w fun e w' => ∃ sv, e = .returned sv ∧ RowG slC 1 24 w' sv vs ∧ (∀ g, g ∈ ownG sv → w.heap.size ≤ g) ∧ Only [] w w' := by
  have HB := hid hb
  obtain ⟨a, c, rfl, _, _, h3⟩ := hb
  cases a with
  | none =>
    obtain rfl : vs = [] := by
      rcases h3 with h | ⟨_, _, h, _⟩
      · exact h
      · cases h
    clear h3 HB hl
    go_enter Tryd.func54, Tryd.ntmps54
    go_wp2_with (refine wp_bin_eq (by kernel_rfl) .eql 26 (.tmp 3) (.const (.slice none 0 0)) _ rfl _ _ _ rfl rfl (cloneb_any_g _ _ _ _ _ _) (cloneb_any_t _ _ _) ?_; simp only [Act.put, List.setIfInBounds_toArray, List.set_cons_zero, List.set_cons_succ])
    go_ret
    exact ⟨_, rfl, RowG.nil _, by simp [ownG, Value.ownBlock], Only.refl _ _⟩
  | some a =>
    obtain ⟨sv, w2, hrun, hrow, hown, honly⟩ := append_cloneG slC_ok sl_row w a c vs HB.out hl
    have RUN := hid hrun
    have ROW := hid hrow
    have OW := hid hown
    have ON := hid honly
    clear hrun hrow hown honly h3 hl HB
    go_enter Tryd.func54, Tryd.ntmps54
    go_wp2_with (first
      | (refine wp_bin_eq (by kernel_rfl) .eql 26 (.tmp 3) (.const (.slice none 0 0)) _ rfl _ _ _ rfl rfl (cloneb_any_g _ _ _ _ _ _) (cloneb_any_f _ _ _ _) ?_; simp only [Act.put, List.setIfInBounds_toArray, List.set_cons_zero, List.set_cons_succ])
      | (at_builtin; refine wp_append_eq (by kernel_rfl) (.tmp 5) (.tmp 6) _ _ rfl _ _ sv w2 rfl rfl RUN.out ?_; simp only [Act.put, List.setIfInBounds_toArray, List.set_cons_zero, List.set_cons_succ]))
    go_ret
    exact ⟨_, rfl, ROW.out, OW.out, ON.out⟩
end Go.Proofs.YtpmmnjeomdjakaaDoor

end

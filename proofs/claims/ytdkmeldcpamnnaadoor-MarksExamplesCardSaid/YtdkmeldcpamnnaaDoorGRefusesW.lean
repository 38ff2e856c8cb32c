/- MarksRefuses: the walk. -/
import Derived.Test.YtdkmeldcpamnnaaDoorMkE
import Derived.Test.YtdkmeldcpamnnaaDoorQuiet
import Derived.Deep.CutBlock
import Derived.Laws.MakeOwn
namespace Go.Proofs.YtdkmeldcpamnnaaDoor
open Go.RowKit
set_option linter.unusedVariables false

/-- A make, by what it does. -/
theorem make_step {P : Program} (w : World) {ops : Array Oper} {rest : List Oper} {o : Oper} {a : Act} {Q : Exit → Act → World → Prop}
    (hg : o.guard = none) (l c : Operand) (t : TypeId) (hop : o.op = Op.makeSlice t l c) (lv cv : Value) (hl : a.eval l = lv) (hc : a.eval c = cv) (v : Value) (w' : World)
    (hrun : (Instr.makeSlice t lv cv).run P w = .ok v w') (hK : wpList P ops Q rest (a.put o.dst v) w') : wpList P ops Q (o :: rest) a w := by
  refine wpList_plain hg fun K hK' => ?_
  unfold Oper.wp
  simp [execOp, hop, hl, hc, hrun, Result.andThen]
  exact hK' _ _ hK
theorem made_mods (W : World) (n : Nat) (hn : n ≤ 100000) : ∃ w1, (Instr.makeSlice 22 (.int .i64 (n : Int)) (.int .i64 (n : Int))).run Tryd.prog W = .ok (.slice (some ⟨W.heap.size, 0, none⟩) n n) w1 ∧ HoldsM w1 (.slice (some ⟨W.heap.size, 0, none⟩) n n) (List.replicate n (0, 0, 0)) ∧ Only [] W w1 ∧ W.heap.size < w1.heap.size := by
  obtain ⟨i0, hi0, hz0, hs0, hb0⟩ := info_parts info_mod
  have hr := run_make (P := Tryd.prog) W 22 50 i0 _ und_mods hi0 hz0 .i64 .i64 (n : Int) (n : Int) (by omega) (Int.le_refl _) (by rw [hb0]; omega) (by omega)
  simp only [Int.toNat_natCast] at hr
  refine ⟨_, hr, ⟨_, n, by rw [List.length_replicate], by rw [List.length_replicate]; exact Nat.le_refl _, by unfold maxLen; omega, .inr ⟨_, 0, rfl, fun j x hj => ?_⟩⟩, (Only.refl [] W).alloc _, by simp⟩
  obtain ⟨hlt, rfl⟩ := List.getElem?_eq_some_iff.1 hj
  rw [List.length_replicate] at hlt
  rw [List.getElem_replicate, hs0]
  refine ⟨?_, ?_, ?_⟩
  all_goals
    rw [World.cell?_alloc_new, Array.getElem?_eq_getElem (by rw [size_madeCells]; omega)]
    simp [madeCells, Value.cells, show (j * 3 + 1) % 3 = 1 by omega, show (j * 3 + 2) % 3 = 2 by omega]
theorem putI_no {m : Bool} {L : List Bool} {l : List (Int × Int × Int)} {e : Int} (h : checkI m l = e) (h0 : e ≠ 0) : putI m L l = (e, L) := by
  unfold putI
  rw [h, if_pos h0]

set_option maxRecDepth 200000 in
set_option maxHeartbeats 4000000 in
theorem mrefuses_any (m : Bool) (a : Value) (l : List (Int × Int × Int)) (at9 how : Int) (W : World) (hV : Vars W) (ha : HoldsM W a l) (hk : OksM l) (a0 : -9223372036854775808 ≤ at9) (a1 : at9 ≤ 9223372036854775807) (b0 : -9223372036854775808 ≤ how) (b1 : how ≤ 9223372036854775807) :
    Calls Tryd.prog 8 #[.bool m, a, .int .i64 at9, .int .i64 how] W fun e w' => e = .returned (.bool true) ∧ Only [] W w' := by
  have HV := hid hV
  clear hV
  have VA := hid (valid9_any m a l W ha hk)
  obtain ⟨a, c, rfl, _⟩ := ha
  obtain ⟨x, hx⟩ : ∃ x, x = validL m l := ⟨_, rfl⟩
  have XC := hid (show checkI m x = 0 by rw [hx]; exact validL_check m l)
  have xl : x.length ≤ 66 := (checkI_firstE XC.out).2
  rw [← hx] at VA
  obtain ⟨N, hN⟩ : ∃ N, N = min (x.length + 1) 66 := ⟨_, rfl⟩
  have hNI : min ((x.length : Int) + 1) 66 = (N : Int) := by omega
  have n0 : (0 : Int) < (N : Int) := by omega
  have n1 : (N : Int) ≤ 66 := by omega
  have nx : N ≤ x.length + 1 := by omega
  have q0 : -(N : Int) < at9.tmod (N : Int) := by have := Int.lt_tmod_of_pos at9 n0; omega
  have q1 : at9.tmod (N : Int) < (N : Int) := Int.tmod_lt_of_pos at9 n0
  have nz : ¬ (N : Int) = 0 := by omega
  obtain ⟨j, hJ⟩ : ∃ j : Nat, (at9.tmod (N : Int) + (N : Int)) % (N : Int) = (j : Int) := ⟨((at9.tmod (N : Int) + (N : Int)) % (N : Int)).toNat, by have := Int.emod_nonneg (at9.tmod (N : Int) + (N : Int)) (show (N : Int) ≠ 0 by omega); omega⟩
  have jn : (j : Int) < (N : Int) := by rw [← hJ]; exact Int.emod_lt_of_pos _ n0
  have h0 : -3 < how.tmod 3 := by have := Int.lt_tmod_of_pos how (show (0 : Int) < 3 by omega); omega
  have h1 : how.tmod 3 < 3 := Int.tmod_lt_of_pos how (by omega)
  have AW := hid (awake_any)
  have XL := hid xl
  have NX := hid nx
  have HN := hid hN
  generalize hq : at9.tmod (N : Int) = q at *
  generalize hr : how.tmod 3 = r at *
  have M10 := i64_and1023 at9
  have M3 := i64_and7 at9
  clear hx xl hk nx hN
  go_enter Tryd.func8, Tryd.ntmps8
  go_wp2_with fail
  refine VA.out.mono ?_
  rintro e w1 ⟨va, rfl, hrow, hO1, hown⟩
  obtain ⟨sv2, w2, hrun, hrow2, honly2, hown2⟩ := append_mod w1 va x (1, 0, 0) hrow (by have := XL.out; omega)
  have O2 := hid (hO1.trans2 honly2 (fun y hy => .inr (hown y hy)))
  have OW := hid (show ∀ g, g ∈ ownOf sv2 → W.heap.size ≤ g from fun g hg => (hown2 g hg).elim (hown g) (fun h => Nat.le_trans hO1.size h))
  have R2 := hid hrow2
  have hl : (x ++ [((1 : Int), (0 : Int), (0 : Int))]).length = x.length + 1 := by simp
  obtain ⟨g, cap, hsv, hc1, hc2, hcells, hfz⟩ := RowM.more hrow2 (by simp)
  rw [hl] at hsv hc1
  subst hsv
  have gW := hid (OW.out g (by simp [ownOf, Value.ownBlock]))
  have CE := hid hcells
  have FZ := hid hfz
  have C2 := hid hc2
  have ncap : (N : Int) ≤ (cap : Int) := by have := NX.out; omega
  have HL := hid hl
  dsimp only at hrun
  clear hrow hO1 hown honly2 hown2 VA hrow2 hcells hfz hc2 hl hc1
  go_upto_block 0 with (at_builtin; refine Lib.wpList_append_run _ rfl _ _ _ _ rfl _ _ rfl rfl _ _ hrun ?_)
  obtain ⟨C, hC⟩ : ∃ C, C = (x ++ [((1 : Int), (0 : Int), (0 : Int))]).take N := ⟨_, rfl⟩
  have cl : C.length = N := by rw [hC, List.length_take, HL.out]; have := NX.out; omega
  have ce : ∀ z, z ∈ C → errI m z = 0 := fun z hz => by
    rw [hC] at hz
    rcases List.mem_append.1 (List.mem_of_mem_take hz) with h | h
    · exact errI_mem XC.out z h
    · rw [List.mem_singleton.1 h]; cases m <;> rfl
  have ck : OksM C := oks_err (firstE_of fun i z hz => ce z (List.mem_of_getElem? hz))
  have cA : ∀ (i : Nat) z, C[i]? = some z → MAt w2 g (i * 3) z := fun i z hz => by
    rw [hC, List.getElem?_take] at hz
    split at hz
    · exact CE.out i z hz
    · cases hz
  obtain ⟨⟨op, A, B⟩, hz⟩ : ∃ z, C[j]? = some z := ⟨C[j]'(by omega), List.getElem?_eq_getElem _⟩
  obtain ⟨z0, z1, z2⟩ := cA j _ hz
  have f0 : w2.frozen? ⟨g, j * 3, none⟩ = false := FZ.out _
  have f1 : w2.frozen? ⟨g, j * 3 + 1, none⟩ = false := FZ.out _
  have f2 : w2.frozen? ⟨g, j * 3 + 2, none⟩ = false := FZ.out _
  have SET := hid (fun (w' : World) (y : Int × Int × Int) (hy : MAt w' g (j * 3) y) (ho : ∀ k, (k < j * 3 ∨ j * 3 + 2 < k) → w'.cell? ⟨g, k, none⟩ = w2.cell? ⟨g, k, none⟩) =>
    show HoldsM w' (.slice (some ⟨g, 0, none⟩) N cap) (C.set j y) by
      have := holdsM_set (w := w2) (w' := w') (g := g) (cap := cap) (l := C) (j := j) (y := y) (by omega) C2.out cA (by omega) hy ho
      rwa [cl] at this)
  have CHK := hid (fun (y : Int × Int × Int) (e : Int) (he : errI m y = e) (h0 : e ≠ 0) => checkI_set ce he h0 j (show j < C.length by omega) (by omega))
  have OKS := hid (fun (y : Int × Int × Int) (hy : OkM y) => oks_set ck hy j)
  have CL := hid cl
  have OZ := hid (ck j _ hz)
  dsimp only at z0 z1 z2
  clear hC cl ce ck cA hz R2 HL CE FZ
  rw [hJ]
  have G2 : g < w2.heap.size := World.block_lt_of_cell? _ _ z0
  go_cut [10] from 40 to 62 (fun s10 wx => ∃ e C', s10 = .int .i64 e ∧ HoldsM wx (.slice (some ⟨g, 0, none⟩) N cap) C' ∧ checkI m C' = e ∧ e ≠ 0 ∧ OksM C' ∧ C'.length = N ∧ Only [g] w2 wx)
  case first =>
    obtain h | h | h : r % 3 = 0 ∨ r % 3 = 1 ∨ r % 3 = 2 := by omega
    · go_wp2_with fail
      go_meet
      have y0 : 0 ≤ at9 % 256 % 200 ∧ at9 % 256 % 200 < 200 := by omega
      refine ⟨9, _, rfl, SET.out _ (7 + at9 % 256 % 200, A, B) ⟨?_, ?_, ?_⟩ ?_, CHK.out _ 9 (err_op m _ A B (by omega)) (by decide), by decide, OKS.out _ ⟨⟨by dsimp only; omega, by dsimp only; omega⟩, OZ.out.2⟩, by rw [List.length_set]; exact CL.out, (Only.refl _ _).setCell (.inl (by simp)) _⟩
      · exact World.cell?_setCell_same _ _ _ z0
      · rw [World.cell?_setCell_other _ _ _ _ (by simp)]; exact z1
      · rw [World.cell?_setCell_other _ _ _ _ (by simp)]; exact z2
      · intro k hk
        rw [World.cell?_setCell_other _ _ _ _ (by simp <;> omega)]
    · go_wp2_with fail
      go_meet
      refine ⟨3, _, rfl, SET.out _ (1, -1 - at9 % 1024, 0) ⟨?_, ?_, ?_⟩ ?_, CHK.out _ 3 (err_num m _ (by omega)) (by decide), by decide, OKS.out _ ⟨by simp, ⟨by dsimp only; omega, by dsimp only; omega⟩, by simp⟩, by rw [List.length_set]; exact CL.out, (((Only.refl _ _).setCell (.inl (by simp)) _).setCell (.inl (by simp)) _).setCell (.inl (by simp)) _⟩
      · go_simp
      · go_simp
      · go_simp
      · intro k hk
        rw [World.cell?_setCell_other _ _ _ _ (by simp <;> omega), World.cell?_setCell_other _ _ _ _ (by simp <;> omega), World.cell?_setCell_other _ _ _ _ (by simp <;> omega)]
    · go_wp2_with fail
      go_meet
      refine ⟨2, _, rfl, SET.out _ (2, 1, 1 + at9 % 1024) ⟨?_, ?_, ?_⟩ ?_, CHK.out _ 2 (err_arg m _ _ (by omega)) (by decide), by decide, OKS.out _ ⟨by simp, by simp, ⟨by dsimp only; omega, by dsimp only; omega⟩⟩, by rw [List.length_set]; exact CL.out, (((Only.refl _ _).setCell (.inl (by simp)) _).setCell (.inl (by simp)) _).setCell (.inl (by simp)) _⟩
      · go_simp
      · go_simp
      · go_simp
      · intro k hk
        rw [World.cell?_setCell_other _ _ _ _ (by simp <;> omega), World.cell?_setCell_other _ _ _ _ (by simp <;> omega), World.cell?_setCell_other _ _ _ _ (by simp <;> omega)]
  case rest =>
    obtain ⟨e, C', rfl, hH, hck, he, hok, hcl, hOx⟩ := hcut
    have OX := hid (O2.out.trans2 hOx (fun y hy => .inr (by rw [List.mem_singleton.1 hy]; exact gW.out)))
    have HC := hid hH
    have CK := hid hok
    have CI := hid (putI_no (L := []) hck he)
    have CE := hid hck
    clear hOx hH hck hok hcl he z0 z1 z2 f0 f1 f2 SET CHK OKS CL OZ G2 O2 OW gW hJ q0 q1 hq
    go_wp2_with fail
    refine (write_any wc).mono ?_
    rintro e1 w3 ⟨rfl, hW3, hO3⟩
    obtain ⟨b, hb⟩ : ∃ b, b = wc.heap.size := ⟨_, rfl⟩
    have A3 := hid (aside_fresh (sv := .slice none 0 0) HC.out (Nat.le_of_eq hb.symm) (by simp [ownOf, Value.ownBlock]))
    rw [← hb] at hW3 ⊢
    have W3 := hid hW3
    have bW := hid (show W.heap.size ≤ b by rw [hb]; exact OX.out.size)
    have O3 := hid (OX.out.trans hO3)
    have H3 := hid (HC.out.only0 hO3)
    clear hW3 hO3 OX HC hb
    go_wp2_with fail
    refine (lcheck_any m _ C' w3 (HV.out.only0 O3.out) H3.out CK.out).mono ?_
    rintro e1 w4 ⟨rfl, hO4⟩
    rw [CE.out]
    have W4 := hid (W3.out.only hO4 (by simp) (by simp))
    have O4 := hid (O3.out.trans hO4)
    have H4 := hid (H3.out.only0 hO4)
    have A4 := A3
    clear hO4 O3 H3 W3 A3 CE
    go_wp2_with fail
    refine (lwrite_any m b _ [] _ C' w4 (HV.out.only0 O4.out) W4.out H4.out CK.out A4.out (by simp)).mono ?_
    rw [CI.out]
    rintro e1 w5 ⟨rfl, sv', hP⟩
    have W5 := hid hP.wr
    have S5 := hid (show ∀ y, y ∈ ownOf sv' → W.heap.size ≤ y from fun y hy => (hP.own y hy).elim (fun h => by simp [ownOf, Value.ownBlock] at h) (fun h => Nat.le_trans O4.out.size h))
    have O5 := hid (O4.out.trans2 hP.only (fun y hy => .inr (by rcases List.mem_cons.1 hy with h | h; exact h ▸ bW.out; simp [ownOf, Value.ownBlock] at h)))
    clear hP O4 W4 H4 A4 CK CI
    go_wp2_with fail
    refine (len_any b _ _ w5 W5.out).mono ?_
    rintro e1 w6 ⟨rfl, n6, rfl⟩
    have O6 := hid (O5.out.trans ((Only.refl [] w5).drewN n6))
    have W6 := hid (W5.out.only ((Only.refl [] w5).drewN n6) (by simp) (by simp))
    generalize World.drewN w5 n6 = w6 at *
    clear O5 W5
    obtain ⟨n, hn⟩ : ∃ n : Nat, 67 + at9 % 8 = (n : Int) := ⟨(67 + at9 % 8).toNat, by omega⟩
    obtain ⟨w7, hmk, hH7, hO7, hs7⟩ := made_mods w6 n (by omega)
    rw [← hn] at hmk
    have A7 := hid (show Aside (.slice (some ⟨w6.heap.size, 0, none⟩) n n) (List.replicate n (0, 0, 0)) b sv' by
      intro ad k c e _
      cases e
      exact ⟨fun h => by have := W6.out.lt; dsimp only at h; omega, fun h => by have := W6.out.row.lt _ h; dsimp only at this; omega⟩)
    have O7 := hid (O6.out.trans hO7)
    have W7 := hid (W6.out.only hO7 (by simp) (by simp))
    have H7 := hid hH7
    have K7 := hid (show OksM (List.replicate n (0, 0, 0)) from fun i x hx => by rw [List.mem_of_getElem? hx |> List.eq_of_mem_replicate]; exact ⟨by simp, by simp, by simp⟩)
    have hc7 : checkI m (List.replicate n ((0 : Int), (0 : Int), (0 : Int))) = 6 := by unfold checkI; rw [if_pos (by rw [List.length_replicate]; omega)]
    have C7 := hid hc7
    have CI := hid (putI_no (L := []) hc7 (by decide))
    clear hO7 hs7 hH7 hc7 O6 W6 hn
    go_wp2_with (refine make_step _ rfl _ _ _ rfl _ _ rfl rfl _ _ hmk ?_)
    refine (lcheck_any m _ _ w7 (HV.out.only0 O7.out) H7.out K7.out).mono ?_
    rw [C7.out]
    rintro e1 w8 ⟨rfl, hO8⟩
    have O8 := hid (O7.out.trans hO8)
    have W8 := hid (W7.out.only hO8 (by simp) (by simp))
    have H8 := hid (H7.out.only0 hO8)
    clear hO8 O7 W7 H7 hmk C7
    go_wp2_with fail
    refine (lwrite_any m b _ [] _ _ w8 (HV.out.only0 O8.out) W8.out H8.out K7.out A7.out (by simp)).mono ?_
    rw [CI.out]
    rintro e1 w9 ⟨rfl, sv9, hP⟩
    have W9 := hid hP.wr
    have O9 := hid (O8.out.trans2 hP.only (fun y hy => .inr (by rcases List.mem_cons.1 hy with h | h; exact h ▸ bW.out; exact S5.out y h)))
    clear hP O8 W8 H8 A7 K7 CI
    go_wp2_with fail
    refine (len_any b _ _ w9 W9.out).mono ?_
    rintro e1 w10 ⟨rfl, n10, rfl⟩
    have O10 := hid (O9.out.trans ((Only.refl [] w9).drewN n10))
    generalize World.drewN w9 n10 = w10 at *
    clear O9 W9
    go_wp2_with fail
    refine (AW.out w10 (HV.out.only0 O10.out)).mono ?_
    rintro e1 w11 ⟨rfl, hO11⟩
    go_wp2_with fail
    go_ret
    exact ⟨rfl, O10.out.trans hO11⟩
end Go.Proofs.YtdkmeldcpamnnaaDoor

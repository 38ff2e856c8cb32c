/- HeaderReads: the walk. -/
import Derived.Test.YtjjjfmnhdnajkaaGreatDoorHrC
import Derived.Test.YtjjjfmnhdnajkaaGreatDoorMg15
import Derived.Test.YtjjjfmnhdnajkaaGreatDoorHlE
namespace Go.Proofs.YtjjjfmnhdnajkaaGreatDoor
open Go.RowKit
set_option linter.unusedVariables false
set_option linter.unusedSimpArgs false

/-- A struct is loaded from anywhere. -/
theorem load_at {P : Program} {w : World} {ops : Array Oper} {rest : List Oper} {o : Oper} {a : Act} {Q : Exit → Act → World → Prop} (hg : o.guard = none) (t : TypeId) (x : Operand) (ho : o.op = .load t x) (p : Addr) (cs : List Value)
    (hx : a.eval x = .pointer (some p)) (hl : (Instr.loadAt t (.pointer (some p))).run P w = .ok (.agg cs.toArray) w)
    (h : wpList P ops Q rest (a.put o.dst (.agg cs.toArray)) w) : wpList P ops Q (o :: rest) a w := by
  refine wpList_plain hg fun K hK => ?_
  unfold Oper.wp execOp
  simp only [ho, hx]
  simp [hl, Result.andThen]
  exact hK _ _ (by simpa using h)
theorem ap_symm {L M : List Nat} (d : ∀ y, y ∈ L → y ∉ M) : ∀ y, y ∈ M → y ∉ L := fun y hm hl => d y hl hm
theorem own_step' {W w w' : World} {L L' : List Nat} (O : Only [] W w) (HL : ∀ y, y ∈ L → W.heap.size ≤ y) (ho : Only L w w') (hl : ∀ y, y ∈ L' → y ∈ L ∨ w.heap.size ≤ y) : Only [] W w' ∧ ∀ y, y ∈ L' → W.heap.size ≤ y :=
  ⟨O.trans2 ho (fun x hx => .inr (HL x hx)), fun y hy => (hl y hy).elim (HL y) (fun h => Nat.le_trans O.size h)⟩
/-- The program's store and the reference's. -/
structure Sr (W w : World) (s r n : Nat) (Ls Lr : List Nat) (ls : List SV) (lp : List PV) : Prop where
  s : StL w s Ls (fS ls) (fP lp) n
  r : RStL w r Lr ls lp
  ks : ∀ y, y ∈ Ls → W.heap.size ≤ y
  kr : ∀ y, y ∈ Lr → W.heap.size ≤ y
  d : ∀ y, y ∈ Ls → y ∉ Lr
  l1 : ls.length ≤ n
  l2 : lp.length ≤ n
  o : Only [] W w
def Srx (W w : World) (s r n : Nat) : Prop := ∃ Ls Lr ls lp, Sr W w s r n Ls Lr ls lp
section
variable {W w wa wb : World} {s r n n' : Nat} {Ls Lr La Lb : List Nat} {ls ls' : List SV} {lp lp' : List PV}
theorem Sr.only (h : Sr W w s r n Ls Lr ls lp) (k : Only [] w wa) : Sr W wa s r n Ls Lr ls lp :=
  ⟨h.s.only k (by simp), h.r.only k (by simp), h.ks, h.kr, h.d, h.l1, h.l2, h.o.trans k⟩
theorem Sr.mono (h : Sr W w s r n Ls Lr ls lp) (k : n ≤ n') : Sr W w s r n' Ls Lr ls lp :=
  ⟨h.s.mono k, h.r, h.ks, h.kr, h.d, Nat.le_trans h.l1 k, Nat.le_trans h.l2 k, h.o⟩
theorem Sr.step (h : Sr W w s r n Ls Lr ls lp) (sa : StL wa s La (fS ls') (fP lp') n') (oa : Only Ls w wa) (la : ∀ y, y ∈ La → y ∈ Ls ∨ w.heap.size ≤ y)
    (rb : RStL wb r Lb ls' lp') (ob : Only Lr wa wb) (lb : ∀ y, y ∈ Lb → y ∈ Lr ∨ wa.heap.size ≤ y) (e1 : ls'.length ≤ n') (e2 : lp'.length ≤ n') : Srx W wb s r n' := by
  obtain ⟨o1, k1⟩ := own_step' h.o h.ks oa la
  obtain ⟨o2, k2⟩ := own_step' o1 h.kr ob lb
  have lr := fun y (hy : y ∈ Lr) => h.r.lt y hy
  have d1 : ∀ y, y ∈ La → y ∉ Lr := fun y hy hr => by
    rcases la y hy with e | e
    · exact h.d y e hr
    · have := lr y hr; omega
  have d2 : ∀ y, y ∈ La → y ∉ Lb := fun y hy hr => by
    rcases lb y hr with e | e
    · exact d1 y hy e
    · have := sa.lt y hy; omega
  exact ⟨La, Lb, ls', lp', sa.only ob d1, rb, k1, k2, d2, e1, e2, o2⟩
end
theorem AllS_of {w : World} {b n : Nat} {L : List Nat} {f : Int → Option SV} {g : Int → Option PV} (h : StL w b L f g n) : AllS f ∧ AllP g := by
  obtain ⟨m1, m2, _, k⟩ := h
  exact ⟨k.a1, k.a2⟩
theorem lists_of {m : Bool} {has : Bool} {l : List (Int × Int × Int)} (h : lstE has m l = 0) : l.length ≤ 66 := by
  unfold lstE at h
  cases has
  · by_cases e : l = []
    · simp [e]
    · rw [if_neg (by simp), if_neg e] at h; exact absurd h (by decide)
  · rw [if_pos rfl] at h
    unfold checkI at h
    by_cases e : 66 < l.length
    · rw [if_pos e] at h; exact absurd h (by decide)
    · omega
theorem restE_at {un : UN} {x : HV} : ∀ (k j : Nat), restE un x k j = 0 → ∀ i, j ≤ i → i < j + k → stepE un x i = 0 := by
  intro k
  induction k with
  | zero => intro j _ i h1 h2; omega
  | succ k ih =>
    intro j h i h1 h2
    obtain ⟨a, b⟩ := restE_cons h
    by_cases e : i = j
    · subst e; exact a
    · exact ih (j + 1) b i (by omega) (by omega)
theorem checkH_lens {un : UN} {x : HV} (h : checkH un x = 0) : x.mods.length ≤ 66 ∧ x.marks.length ≤ 66 := by
  have h3 := (checkH_ok h).2.2
  exact ⟨lists_of (has := x.listed) (m := false) (restE_at 15 0 h3 6 (by omega) (by omega)), lists_of (has := x.ad) (m := true) (restE_at 15 0 h3 9 (by omega) (by omega))⟩
/-- What is read has short lists, or none; and the place is in the string. -/
theorem readH_lens {s : ByteArray} {pos : Nat} {ref : Int} {idr : Bool} {f : Int → Option SV} {g : Int → Option PV} (hf : AllS f) (hg : AllP g) (hq : pos ≤ 8 * s.size) :
    (readH s pos ref idr f g).2.1.mods.length ≤ 66 ∧ (readH s pos ref idr f g).2.1.marks.length ≤ 66 := by
  obtain ⟨e, x, q, h⟩ : ∃ e x q, readH s pos ref idr f g = (e, x, q) := ⟨_, _, _, rfl⟩
  by_cases he : e = 0
  · subst he
    obtain ⟨un, _, _, _, hc, _⟩ := readH_back hf hg hq h
    rw [h]
    exact checkH_lens hc
  · have : x = h0 := by
      unfold readH at h
      by_cases hu : ¬ (ref ≤ 3 ∧ (0 < ref ∨ idr = false))
      · rw [if_pos hu] at h; cases h; rfl
      · rw [if_neg hu] at h
        by_cases h1 : (readT s (readB s pos ref idr f g)).1 ≠ 0
        · rw [if_pos h1] at h; cases h; rfl
        · rw [if_neg h1] at h; rw [h] at h1; exact absurd he h1
    rw [h, this]
    exact ⟨Nat.zero_le _, Nat.zero_le _⟩

set_option maxRecDepth 100000 in
set_option maxHeartbeats 16000000 in
theorem hreads_any (s : ByteArray) (at_ ref : Int) (idr : Bool) (pv qv : Value) (pl : List PV) (ql : List SV) (W : World) (hV : Vars W) (hs : s.size ≤ maxLen) (b0 : -9223372036854775808 ≤ at_) (b1 : at_ ≤ 9223372036854775807) (r0 : 0 ≤ ref)
    (hp : HoldsG pCl 10 W pv pl) (hq : HoldsG sCl 9 W qv ql) :
    Calls Tryz.prog 10 #[.string s, .int .i64 at_, .int .u8 ref, .bool idr, pv, qv] W fun e w' => e = .returned (.bool true) ∧ Only [] W w' := by
  have HV := hid hV
  have HP := hid hp
  have HQ := hid hq
  have R0 := hid r0
  obtain ⟨pa, pc, rfl, _⟩ := hp
  obtain ⟨qa, qc, rfl, _⟩ := hq
  clear hV r0
  obtain ⟨n, hn⟩ : ∃ n, n = min s.size 200 := ⟨_, rfl⟩
  have hnI : min (s.size : Int) 200 = (n : Int) := by omega
  have hn1 : (n : Int) ≤ (s.size : Int) := by omega
  have hn2 : (n : Int) ≤ 200 := by omega
  have hb : (s.size : Int) ≤ 9223372036854775807 := by unfold maxLen at hs; omega
  obtain ⟨t, ht⟩ : ∃ t, t = s.extract 0 n := ⟨_, rfl⟩
  have ts : t.size = n := by rw [ht, ByteArray.size_extract]; omega
  clear hn hs
  go_enter Tryz.func10, Tryz.ntmps10
  go_upto_region 2 with fail
  rw [← ht]
  have z0 : (0 : Int) ≤ (t.size : Int) := by omega
  have z1 : (t.size : Int) ≤ 200 := by omega
  have tz : t.size ≤ 200 := by omega
  have q0 : -(8 * (t.size : Int)) ≤ at_.tmod (8 * (t.size : Int) + 1) := by have := Int.lt_tmod_of_pos at_ (show (0 : Int) < 8 * (t.size : Int) + 1 by omega); omega
  have q1 : at_.tmod (8 * (t.size : Int) + 1) ≤ 8 * (t.size : Int) := by have := Int.tmod_lt_of_pos at_ (show (0 : Int) < 8 * (t.size : Int) + 1 by omega); omega
  have nz : ¬ 8 * (t.size : Int) + 1 = 0 := by omega
  obtain ⟨P, hP⟩ : ∃ P : Nat, (at_.tmod (8 * (t.size : Int) + 1) + 8 * (t.size : Int) + 1) % (8 * (t.size : Int) + 1) = (P : Int) := ⟨((at_.tmod (8 * (t.size : Int) + 1) + 8 * (t.size : Int) + 1) % (8 * (t.size : Int) + 1)).toNat, by have := Int.emod_nonneg (at_.tmod (8 * (t.size : Int) + 1) + 8 * (t.size : Int) + 1) (show 8 * (t.size : Int) + 1 ≠ 0 by omega); omega⟩
  have hP8 : P ≤ 8 * t.size := by
    have := Int.emod_lt_of_pos (at_.tmod (8 * (t.size : Int) + 1) + 8 * (t.size : Int) + 1) (show (0 : Int) < 8 * (t.size : Int) + 1 by omega)
    rw [hP] at this
    omega
  generalize hq0 : at_.tmod (8 * (t.size : Int) + 1) = q at *
  clear ht ts hnI hn1 hn2 hb
  go_wp2_with fail
  rw [hP]
  have P0 : (0 : Int) ≤ (P : Int) := by omega
  have P1 : (P : Int) ≤ 1600 := by omega
  have P8 := hid hP8
  have TZ := hid tz
  clear hP hP8 tz nz q0 q1 hq0
  refine (new_any _).mono ?_
  rintro e w1 ⟨rfl, s1, o1⟩
  obtain ⟨S, hS⟩ : ∃ S, S = W.heap.size := ⟨_, rfl⟩
  rw [← hS] at s1 ⊢
  have S1 := hid s1
  have O1 := hid o1
  have HS := hid hS
  clear s1 o1 hS
  go_wp2_with fail
  refine (rnew_any _).mono ?_
  rintro e w2 ⟨rfl, s2, o2⟩
  obtain ⟨R, hR⟩ : ∃ R, R = w1.heap.size := ⟨_, rfl⟩
  rw [← hR] at s2 ⊢
  have SR : S < R := by have := S1.out.lt S (by simp); omega
  have X0 := hid (show Srx W w2 S R 0 from ⟨[S], [R], [], [], S1.out.only o2 (by simp), s2, fun y hy => by rw [List.mem_singleton.1 hy, HS.out]; exact Nat.le_refl _, fun y hy => by rw [List.mem_singleton.1 hy, hR]; exact O1.out.size, fun y hy => by rw [List.mem_singleton.1 hy]; simp; omega, by simp, by simp, O1.out.trans o2⟩)
  clear s2 o2 hR SR S1 O1 HS
  go_upto_block 0 with fail
  go_cut [15] from 46 to 67 (fun _ wx => Srx W wx S R 6)
  case first =>
    obtain ⟨NN, hN⟩ : ∃ N, N = min pl.length 6 := ⟨_, rfl⟩
    have KN := hid hN
    clear hN
    go_wp2_with fail
    go_loopg [15] NN (fun g t wr => ∃ j : Nat, j + g = NN ∧ t = .int .i64 j ∧ Srx W wr S R (0 + j))
    case atStart => exact ⟨0, by omega, rfl, X0.out⟩
    case round =>
      obtain ⟨j, hj, rfl, hT⟩ := hrel
      have XJ := hid hT
      have BN := KN.out
      clear hT
      by_cases hg : gk = 0
      · have jb : (j : Int) ≤ 6 := by omega
        rcases Nat.lt_or_ge j pl.length with hlt | hge
        · have i1 : (j : Int) < (pl.length : Int) := by omega
          have i2 : ¬ (j : Int) < 6 := by omega
          clear hj hg hlt
          go_wp2_with fail
          go_meet
          obtain ⟨_, _, _, _, m⟩ := XJ.out
          exact ⟨_, _, _, _, m.mono (by omega)⟩
        · have i1 : ¬ (j : Int) < (pl.length : Int) := by omega
          have jb' : j ≤ 6 := by omega
          clear hj hg hge
          go_wp2_with fail
          go_meet
          obtain ⟨_, _, _, _, m⟩ := XJ.out
          exact ⟨_, _, _, _, m.mono (by omega)⟩
      · have i1 : (j : Int) < (pl.length : Int) := by omega
        have i2 : (j : Int) < 6 := by omega
        have i0 : (0 : Int) ≤ (j : Int) := by omega
        obtain ⟨gg, rfl⟩ : ∃ gg, gk = gg + 1 := ⟨gk - 1, by omega⟩
        obtain ⟨x, X⟩ : ∃ x, pl[j]? = some x := ⟨_, List.getElem?_eq_getElem (by omega : j < pl.length)⟩
        obtain ⟨xb, xo, rfl, hx⟩ := HP.out.at X
        have JN := hid (show j + 1 + gg = NN ∧ j < 6 by omega)
        obtain ⟨Ls, Lr, ls, lp, m⟩ := XJ.out
        have MT := hid m
        have CX := hid (fun w' (o : Only [] W w') => ho_pps xb (xo + j * 10) x w' (fun k v hk => o.cell (hx k v hk) (by simp)))
        clear hj hg X hx BN m XJ
        cases hok : okP x with
        | true =>
          have HOK := hid hok
          clear hok
          go_wp2_with (refine load_at rfl 24 _ rfl ⟨xb, xo + j * 10, none⟩ (pL x) rfl (CX.out _ MT.out.o) ?_)
          refine (PutPps_any MT.out.s x HOK.out (by have := JN.out; unfold maxLen; omega)).mono ?_
          rintro e wa ⟨rfl, La, sa, oa, la⟩
          have SA := hid sa
          have OA := hid oa
          have LA := hid la
          have OW := hid (own_step' MT.out.o MT.out.ks oa la).1
          clear sa oa la
          go_wp2_with (refine load_at rfl 24 _ rfl ⟨xb, xo + j * 10, none⟩ (pL x) rfl (CX.out _ OW.out) ?_)
          refine (RPutPps_any (MT.out.r.only OA.out (ap_symm MT.out.d)) x HOK.out (by have := MT.out.l2; have := JN.out; omega)).mono ?_
          rintro e wb ⟨rfl, Lb, rb, ob, lb⟩
          have XE := hid (Sr.step MT.out (by rw [fP_snoc]; exact SA.out) OA.out LA.out rb ob lb (by have := MT.out.l1; omega) (by have := MT.out.l2; simp; omega))
          clear rb ob lb SA OA LA OW
          go_wp2_with fail
          go_roundg gg
          case measure => omega
          case rel => exact ⟨j + 1, JN.out.1, by go_num, XE.out⟩
        | false =>
          have HOK := hid hok
          clear hok
          go_wp2_with (refine load_at rfl 24 _ rfl ⟨xb, xo + j * 10, none⟩ (pL x) rfl (CX.out _ MT.out.o) ?_)
          refine (PutPps_no MT.out.s x HOK.out).mono ?_
          rintro e wa ⟨rfl, La, sa, oa, la⟩
          have SA := hid sa
          have OA := hid oa
          have LA := hid la
          have OW := hid (own_step' MT.out.o MT.out.ks oa la).1
          clear sa oa la
          go_wp2_with (refine load_at rfl 24 _ rfl ⟨xb, xo + j * 10, none⟩ (pL x) rfl (CX.out _ OW.out) ?_)
          refine (RPutPps_no (MT.out.r.only OA.out (ap_symm MT.out.d)) x HOK.out).mono ?_
          rintro e wb ⟨rfl, Lb, rb, ob, lb⟩
          have XE := hid (Sr.step MT.out (SA.out.mono (Nat.le_succ _)) OA.out LA.out rb ob lb (by have := MT.out.l1; omega) (by have := MT.out.l2; omega))
          clear rb ob lb SA OA LA OW
          go_wp2_with fail
          go_roundg gg
          case measure => omega
          case rel => exact ⟨j + 1, JN.out.1, by go_num, XE.out⟩
  case rest =>
  have X1 := hid hcut
  clear hcut X0 HP
  go_upto_block 2 with fail
  go_cut [16] from 68 to 89 (fun _ wx => Srx W wx S R 12)
  case first =>
    obtain ⟨NN, hN⟩ : ∃ N, N = min ql.length 6 := ⟨_, rfl⟩
    have KN := hid hN
    clear hN
    go_wp2_with fail
    go_loopg [16] NN (fun g t wr => ∃ j : Nat, j + g = NN ∧ t = .int .i64 j ∧ Srx W wr S R (6 + j))
    case atStart => exact ⟨0, by omega, rfl, X1.out⟩
    case round =>
      obtain ⟨j, hj, rfl, hT⟩ := hrel
      have XJ := hid hT
      have BN := KN.out
      clear hT
      by_cases hg : gk = 0
      · have jb : (j : Int) ≤ 6 := by omega
        rcases Nat.lt_or_ge j ql.length with hlt | hge
        · have i1 : (j : Int) < (ql.length : Int) := by omega
          have i2 : ¬ (j : Int) < 6 := by omega
          clear hj hg hlt
          go_wp2_with fail
          go_meet
          obtain ⟨_, _, _, _, m⟩ := XJ.out
          exact ⟨_, _, _, _, m.mono (by omega)⟩
        · have i1 : ¬ (j : Int) < (ql.length : Int) := by omega
          have jb' : j ≤ 6 := by omega
          clear hj hg hge
          go_wp2_with fail
          go_meet
          obtain ⟨_, _, _, _, m⟩ := XJ.out
          exact ⟨_, _, _, _, m.mono (by omega)⟩
      · have i1 : (j : Int) < (ql.length : Int) := by omega
        have i2 : (j : Int) < 6 := by omega
        have i0 : (0 : Int) ≤ (j : Int) := by omega
        obtain ⟨gg, rfl⟩ : ∃ gg, gk = gg + 1 := ⟨gk - 1, by omega⟩
        obtain ⟨x, X⟩ : ∃ x, ql[j]? = some x := ⟨_, List.getElem?_eq_getElem (by omega : j < ql.length)⟩
        obtain ⟨xb, xo, rfl, hx⟩ := HQ.out.at X
        have JN := hid (show j + 1 + gg = NN ∧ j < 6 by omega)
        obtain ⟨Ls, Lr, ls, lp, m⟩ := XJ.out
        have MT := hid m
        have CX := hid (fun w' (o : Only [] W w') => ho_sps xb (xo + j * 9) x w' (fun k v hk => o.cell (hx k v hk) (by simp)))
        clear hj hg X hx BN m XJ
        cases hok : okS x with
        | true =>
          have HOK := hid hok
          clear hok
          go_wp2_with (refine load_at rfl 27 _ rfl ⟨xb, xo + j * 9, none⟩ (sL x) rfl (CX.out _ MT.out.o) ?_)
          refine (PutSps_any MT.out.s x HOK.out (by have := JN.out; unfold maxLen; omega)).mono ?_
          rintro e wa ⟨rfl, La, sa, oa, la⟩
          have SA := hid sa
          have OA := hid oa
          have LA := hid la
          have OW := hid (own_step' MT.out.o MT.out.ks oa la).1
          clear sa oa la
          go_wp2_with (refine load_at rfl 27 _ rfl ⟨xb, xo + j * 9, none⟩ (sL x) rfl (CX.out _ OW.out) ?_)
          refine (RPutSps_any (MT.out.r.only OA.out (ap_symm MT.out.d)) x HOK.out (by have := MT.out.l1; have := JN.out; omega)).mono ?_
          rintro e wb ⟨rfl, Lb, rb, ob, lb⟩
          have XE := hid (Sr.step MT.out (by rw [fS_snoc]; exact SA.out) OA.out LA.out rb ob lb (by have := MT.out.l1; simp; omega) (by have := MT.out.l2; omega))
          clear rb ob lb SA OA LA OW
          go_wp2_with fail
          go_roundg gg
          case measure => omega
          case rel => exact ⟨j + 1, JN.out.1, by go_num, XE.out⟩
        | false =>
          have HOK := hid hok
          clear hok
          go_wp2_with (refine load_at rfl 27 _ rfl ⟨xb, xo + j * 9, none⟩ (sL x) rfl (CX.out _ MT.out.o) ?_)
          refine (PutSps_no MT.out.s x HOK.out).mono ?_
          rintro e wa ⟨rfl, La, sa, oa, la⟩
          have SA := hid sa
          have OA := hid oa
          have LA := hid la
          have OW := hid (own_step' MT.out.o MT.out.ks oa la).1
          clear sa oa la
          go_wp2_with (refine load_at rfl 27 _ rfl ⟨xb, xo + j * 9, none⟩ (sL x) rfl (CX.out _ OW.out) ?_)
          refine (RPutSps_no (MT.out.r.only OA.out (ap_symm MT.out.d)) x HOK.out).mono ?_
          rintro e wb ⟨rfl, Lb, rb, ob, lb⟩
          have XE := hid (Sr.step MT.out (SA.out.mono (Nat.le_succ _)) OA.out LA.out rb ob lb (by have := MT.out.l1; omega) (by have := MT.out.l2; omega))
          clear rb ob lb SA OA LA OW
          go_wp2_with fail
          go_roundg gg
          case measure => omega
          case rel => exact ⟨j + 1, JN.out.1, by go_num, XE.out⟩
  case rest =>
  obtain ⟨Ls, Lr, ls, lp, m⟩ := hcut
  have M := hid m
  clear m X1 HQ
  have AT := hid (fun w => at9_any t P w P8.out (by have := TZ.out; omega))
  go_wp2_with fail
  refine (AT.out _).mono ?_
  rintro e w3 ⟨r, rfl, hR3, hr3, hO3⟩
  have M3 := hid (M.out.only hO3)
  have rW := hid (show (∀ y, y ∈ Ls → y ≠ r) ∧ (∀ y, y ∈ Lr → y ≠ r) ∧ W.heap.size ≤ r from ⟨fun y hy e => by have := M.out.s.lt y hy; omega, fun y hy e => by have := M.out.r.lt y hy; omega, Nat.le_trans M.out.o.size hr3⟩)
  have R3 := hid hR3
  have rl := hR3.lt
  clear hR3 hr3 hO3 M AT
  go_upto_region 15 with fail
  generalize hw4 : w3.alloc _ = w4
  have OA := (show Only [] w3 w4 from hw4 ▸ (Only.refl [] w3).alloc _)
  obtain ⟨x, hx⟩ : ∃ x, x = w3.heap.size := ⟨_, rfl⟩
  have X4 := hid (show Rd w4 x t P from by rw [← hw4, hx]; exact ⟨by simp, by simp, by simp, P8.out, by have := TZ.out; omega⟩)
  have R4 := hid (R3.out.only OA (by simp))
  have M4 := hid (M3.out.only OA)
  have xW := hid (show (∀ y, y ∈ Ls → y ≠ x) ∧ (∀ y, y ∈ Lr → y ≠ x) ∧ W.heap.size ≤ x ∧ x ≠ r from ⟨fun y hy e => by have := M3.out.s.lt y hy; omega, fun y hy e => by have := M3.out.r.lt y hy; omega, by rw [hx]; exact M3.out.o.size, by omega⟩)
  rw [← hx]
  clear hw4 hx OA R3 M3 rl
  have HA := AllS_of M4.out.s
  have HAll := hid HA
  obtain ⟨rr, hrr⟩ : ∃ rr, rr = readH t P ref idr (fS ls) (fP lp) := ⟨_, rfl⟩
  have LL := hid (show rr.2.1.mods.length ≤ 66 ∧ rr.2.1.marks.length ≤ 66 from by rw [hrr]; exact readH_lens HA.1 HA.2 P8.out)
  have C1 := hid (hread_any (ref := ref) (idr := idr) (HV.out.only0 M4.out.o) R0.out R4.out M4.out.s (fun h => rW.out.1 _ h rfl) HA.1 HA.2 (by have := TZ.out; omega))
  have C2 := hid (fun w' (hx : Rd w' x t P) (hm : RStL w' R Lr ls lp) => rhread_any (ref := ref) (idr := idr) R0.out hx hm (by have := M4.out.l1; omega) (by have := M4.out.l2; omega) HA.1 HA.2)
  rw [← hrr] at C1 C2
  clear hrr HA
  obtain ⟨re, rx, rq⟩ := rr
  go_wp2_with fail
  refine C1.out.mono ?_
  rintro e w5 ⟨mv, kv, rfl, hR5, hO5, hm5, hk5, fm5, fk5⟩
  dsimp only at hR5 hm5 hk5 fm5 fk5
  have X5 := hid (X4.out.only hO5 (by simp; exact xW.out.2.2.2))
  have R5 := hid hR5
  have Q5 := hid (M4.out.r.only hO5 (fun y hy => by simp; exact rW.out.2.1 y hy))
  have O5 := hid (M4.out.o.trans2 hO5 (fun y hy => .inr (by rw [List.mem_singleton.1 hy]; exact rW.out.2.2)))
  obtain ⟨ma, mc, hmv⟩ := holdsM_slice hm5
  obtain ⟨ka, kc, hkv⟩ := holdsM_slice hk5
  subst hmv hkv
  have H5 := hid (And.intro hm5 hk5)
  have F5 := hid (And.intro fm5 fk5)
  have XL4 := hid X4.out.lt
  clear hR5 hO5 hm5 hk5 fm5 fk5 C1 M4 X4 R4
  simp only [hV, hC]
  go_wp2_with (refine store_blk rfl 34 _ _ rfl w5.heap.size 0 _ _ (hC rx (.slice ma rx.mods.length mc) (.slice ka rx.marks.length kc)) rfl rfl (info_hdr' _ _ _) (Blk.new w5 _ _) (by simp [hC]) (one_hC _ rfl rfl) ?_; intro w6 hB6 hO6)
  have AL := hid (show Only [] w5 w6 from (((Only.refl [] w5).alloc _).trans2 hO6 (fun y hy => .inr (by simp at hy; omega))))
  obtain ⟨A, hA⟩ : ∃ A, A = w5.heap.size := ⟨_, rfl⟩
  rw [← hA] at hB6 ⊢
  have hB6' : Blk w6 A 34 (hC rx (.slice ma rx.mods.length mc) (.slice ka rx.marks.length kc)).toArray := by
    rw [setsA_full (by simp [hC])] at hB6; exact hB6
  have BA := hid hB6'
  have X6 := hid (X5.out.only AL.out (by simp))
  have R6 := hid (R5.out.only AL.out (by simp))
  have Q6 := hid (Q5.out.only AL.out (by simp))
  have O6 := hid (O5.out.trans AL.out)
  have H6 := hid (And.intro (H5.out.1.only0 AL.out) (H5.out.2.only0 AL.out))
  have NA := hid (show A ≠ x ∧ A ≠ r from ⟨by have := X5.out.lt; omega, by have := R5.out.lt; omega⟩)
  clear hB6 hB6' hO6 hA X5 R5 Q5 O5 H5 AL
  refine (C2.out _ X6.out Q6.out).mono ?_
  rintro e w7 ⟨mv, kv, rfl, hR7, hO7, hm7, hk7, fm7, fk7⟩
  dsimp only at hR7 hm7 hk7 fm7 fk7
  have X7 := hid hR7
  have R7 := hid (R6.out.only hO7 (by simp; exact fun h => xW.out.2.2.2 h.symm))
  have BA7 := hid (BA.out.only hO7 (by simp; exact NA.out.1))
  have O7 := hid (O6.out.trans2 hO7 (fun y hy => .inr (by rw [List.mem_singleton.1 hy]; exact xW.out.2.2.1)))
  have XL := hid X6.out.lt
  have H7 := hid (show HoldsM w7 (.slice ma rx.mods.length mc) rx.mods ∧ HoldsM w7 (.slice ka rx.marks.length kc) rx.marks from ⟨H6.out.1.fresh F5.out.1 hO7 (fun y hy => by rw [List.mem_singleton.1 hy]; exact XL4.out), H6.out.2.fresh F5.out.2 hO7 (fun y hy => by rw [List.mem_singleton.1 hy]; exact XL4.out)⟩)
  obtain ⟨na, nc, hnv⟩ := holdsM_slice hm7
  obtain ⟨ja, jc, hjv⟩ := holdsM_slice hk7
  subst hnv hjv
  have G7 := hid (And.intro hm7 hk7)
  clear hR7 hO7 hm7 hk7 fm7 fk7 C2 X6 R6 Q6 O6 H6
  simp only [hV, hC]
  go_upto_region 17 with (refine store_blk rfl 34 _ _ rfl w7.heap.size 0 _ _ (hC rx (.slice na rx.mods.length nc) (.slice ja rx.marks.length jc)) rfl rfl (info_hdr' _ _ _) (Blk.new w7 _ _) (by simp [hC]) (one_hC _ rfl rfl) ?_; intro w8 hB8 hO8)
  have AL := hid (show Only [] w7 w8 from (((Only.refl [] w7).alloc _).trans2 hO8 (fun y hy => .inr (by simp at hy; omega))))
  obtain ⟨B, hBw⟩ : ∃ B, B = w7.heap.size := ⟨_, rfl⟩
  rw [← hBw] at hB8 ⊢
  have hB8' : Blk w8 B 34 (hC rx (.slice na rx.mods.length nc) (.slice ja rx.marks.length jc)).toArray := by
    rw [setsA_full (by simp [hC])] at hB8; exact hB8
  have BA8 := BA7.out.only AL.out (by simp)
  have LA := hid (fun w (h : Only [] w8 w) => hl_hdr A rx _ _ w (fun j v hj => (BA8.only h (by simp)).cell (by simpa using hj)))
  have LB := hid (fun w (h : Only [] w8 w) => hl_hdr B rx _ _ w (fun j v hj => (hB8'.only h (by simp)).cell (by simpa using hj)))
  have EQ := hid (fun w' (o : Only [] w8 w') => eqh_any rx _ _ _ _ w' ((H7.out.1.only0 AL.out).only0 o) ((H7.out.2.only0 AL.out).only0 o) ((G7.out.1.only0 AL.out).only0 o) ((G7.out.2.only0 AL.out).only0 o) (by have := LL.out.1; omega) (by have := LL.out.2; omega))
  have R8 := hid (R7.out.only AL.out (by simp))
  have X8 := X7.out.only AL.out (by simp)
  have PO := hid (show ∀ w', Only [] w8 w' → Calls Tryz.prog 41 #[.pointer (some ⟨r, 0, none⟩)] w' (fun e w'' => e = .returned (.int .i64 (rq : Nat)) ∧ Only [] w' w'') from fun w' o => (pos_any r t rq w' (R8.out.only o (by simp))).mono fun e w'' ⟨h1, h2⟩ => ⟨h1, h2 ▸ Only.refl [] w'⟩)
  have O8 := hid (O7.out.trans AL.out)
  have AW := hid (fun w' (o : Only [] w8 w') => hawake_any w' (HV.out.only0 (O8.out.trans o)))
  have XC := hid (fun w (h : Only [] w8 w) => And.intro (h.cell X8.hp (by simp)) trivial)
  clear hB8 hB8' BA8 hO8 hBw BA7 R7 X7 X8 H7 G7 O7 XL
  refine wp_region_heldH (fun w' => Only [] w8 w') 21 (by kernel_rfl) rfl (Only.refl [] w8).drew (fun hS => ?_)
  generalize w8.drew = wd at *
  refine wpAnyH_read 0 rfl (by kernel_rfl) (by kernel_rfl) (by kernel_rfl) (fun _ _ _ h => h) hS (yields_load 34 _ (by rfl) rfl ⟨A, 0, none⟩ (hC rx (.slice ma rx.mods.length mc) (.slice ka rx.marks.length kc)) rfl LA.out) ?_
  (try simp only [Act.put, List.setIfInBounds_toArray, List.set_cons_zero, List.set_cons_succ])
  refine wpAnyH_read 1 rfl (by kernel_rfl) (by kernel_rfl) (by kernel_rfl) (fun _ _ _ h => h) hS (yields_load 34 _ (by rfl) rfl ⟨B, 0, none⟩ (hC rx (.slice na rx.mods.length nc) (.slice ja rx.marks.length jc)) rfl LB.out) ?_
  (try simp only [Act.put, List.setIfInBounds_toArray, List.set_cons_zero, List.set_cons_succ])
  refine wpAnyH_call 2 rfl (by kernel_rfl) (fun J hJ => ?_)
  rw [if_pos (by rfl)]
  go_simp
  refine (EQ.out _ hS).mono ?_
  rintro e u1 ⟨rfl, p_⟩
  have s1 := hS.trans p_
  clear p_
  refine hJ.out _ _ s1 ?_
  clear hJ J
  (try simp only [Act.put, List.setIfInBounds_toArray, List.set_cons_zero, List.set_cons_succ])
  refine wpAnyH_read 3 (v := ?va1) rfl (by kernel_rfl) (by kernel_rfl) (by kernel_rfl) (fun _ _ _ h => h) s1 (Or.inl ⟨by rfl, ?ya1⟩) ?ra1
  case ya1 =>
    intro w hSw
    obtain ⟨hc1, hc2⟩ := XC.out w hSw
    go_simp
    (try with_reducible rfl)
  (try simp only [Act.put, List.setIfInBounds_toArray, List.set_cons_zero, List.set_cons_succ])
  refine wpAnyH_read 4 (v := ?va2) rfl (by kernel_rfl) (by kernel_rfl) (by kernel_rfl) (fun _ _ _ h => h) s1 (Or.inl ⟨by rfl, ?ya2⟩) ?ra2
  case ya2 =>
    intro w hSw
    obtain ⟨hc1, hc2⟩ := XC.out w hSw
    go_simp
    (try with_reducible rfl)
  (try simp only [Act.put, List.setIfInBounds_toArray, List.set_cons_zero, List.set_cons_succ])
  refine wpAnyH_read 5 (v := ?va3) rfl (by kernel_rfl) (by kernel_rfl) (by kernel_rfl) (fun _ _ _ h => h) s1 (Or.inl ⟨by rfl, ?ya3⟩) ?ra3
  case ya3 =>
    intro w hSw
    obtain ⟨hc1, hc2⟩ := XC.out w hSw
    go_simp
    (try with_reducible rfl)
  (try simp only [Act.put, List.setIfInBounds_toArray, List.set_cons_zero, List.set_cons_succ])
  refine wpAnyH_read 6 (v := ?va4) rfl (by kernel_rfl) (by kernel_rfl) (by kernel_rfl) (fun _ _ _ h => h) s1 (Or.inl ⟨by rfl, ?ya4⟩) ?ra4
  case ya4 =>
    intro w hSw
    obtain ⟨hc1, hc2⟩ := XC.out w hSw
    go_simp
    (try with_reducible rfl)
  (try simp only [Act.put, List.setIfInBounds_toArray, List.set_cons_zero, List.set_cons_succ])
  refine wpAnyH_read 7 (v := ?va5) rfl (by kernel_rfl) (by kernel_rfl) (by kernel_rfl) (fun _ _ _ h => h) s1 (Or.inl ⟨by rfl, ?ya5⟩) ?ra5
  case ya5 =>
    intro w hSw
    obtain ⟨hc1, hc2⟩ := XC.out w hSw
    go_simp
    (try with_reducible rfl)
  (try simp only [Act.put, List.setIfInBounds_toArray, List.set_cons_zero, List.set_cons_succ])
  refine wpAnyH_read 8 (v := ?va6) rfl (by kernel_rfl) (by kernel_rfl) (by kernel_rfl) (fun _ _ _ h => h) s1 (Or.inl ⟨by rfl, ?ya6⟩) ?ra6
  case ya6 =>
    intro w hSw
    obtain ⟨hc1, hc2⟩ := XC.out w hSw
    go_simp
    (try with_reducible rfl)
  (try simp only [Act.put, List.setIfInBounds_toArray, List.set_cons_zero, List.set_cons_succ])
  refine wpAnyH_read 9 (v := ?va7) rfl (by kernel_rfl) (by kernel_rfl) (by kernel_rfl) (fun _ _ _ h => h) s1 (Or.inl ⟨by rfl, ?ya7⟩) ?ra7
  case ya7 =>
    intro w hSw
    obtain ⟨hc1, hc2⟩ := XC.out w hSw
    go_simp
    (try with_reducible rfl)
  (try simp only [Act.put, List.setIfInBounds_toArray, List.set_cons_zero, List.set_cons_succ])
  refine wpAnyH_read 11 (v := ?va8) rfl (by kernel_rfl) (by kernel_rfl) (by kernel_rfl) (fun _ _ _ h => h) s1 (Or.inl ⟨by rfl, ?ya8⟩) ?ra8
  case ya8 =>
    intro w hSw
    obtain ⟨hc1, hc2⟩ := XC.out w hSw
    go_simp
    (try with_reducible rfl)
  (try simp only [Act.put, List.setIfInBounds_toArray, List.set_cons_zero, List.set_cons_succ])
  refine wpAnyH_read 12 (v := ?va9) rfl (by kernel_rfl) (by kernel_rfl) (by kernel_rfl) (fun _ _ _ h => h) s1 (Or.inl ⟨by rfl, ?ya9⟩) ?ra9
  case ya9 =>
    intro w hSw
    obtain ⟨hc1, hc2⟩ := XC.out w hSw
    go_simp
    (try with_reducible rfl)
  (try simp only [Act.put, List.setIfInBounds_toArray, List.set_cons_zero, List.set_cons_succ])
  refine wpAnyH_read 13 (v := ?va10) rfl (by kernel_rfl) (by kernel_rfl) (by kernel_rfl) (fun _ _ _ h => h) s1 (Or.inl ⟨by rfl, ?ya10⟩) ?ra10
  case ya10 =>
    intro w hSw
    obtain ⟨hc1, hc2⟩ := XC.out w hSw
    go_simp
    (try with_reducible rfl)
  (try simp only [Act.put, List.setIfInBounds_toArray, List.set_cons_zero, List.set_cons_succ])
  refine wpAnyH_read 14 (v := ?va11) rfl (by kernel_rfl) (by kernel_rfl) (by kernel_rfl) (fun _ _ _ h => h) s1 (Or.inl ⟨by rfl, ?ya11⟩) ?ra11
  case ya11 =>
    intro w hSw
    obtain ⟨hc1, hc2⟩ := XC.out w hSw
    go_simp
    (try with_reducible rfl)
  (try simp only [Act.put, List.setIfInBounds_toArray, List.set_cons_zero, List.set_cons_succ])
  refine wpAnyH_call 10 rfl (by kernel_rfl) (fun J hJ => ?_)
  rw [if_pos (by rfl)]
  go_simp
  refine (PO.out _ s1).mono ?_
  rintro e u2 ⟨rfl, p_⟩
  have s2 := s1.trans p_
  clear p_
  refine hJ.out _ _ s2 ?_
  clear hJ J
  (try simp only [Act.put, List.setIfInBounds_toArray, List.set_cons_zero, List.set_cons_succ])
  refine wpAnyH_read 15 (v := ?va12) rfl (by kernel_rfl) (by kernel_rfl) (by kernel_rfl) (fun _ _ _ h => h) s2 (Or.inl ⟨by rfl, ?ya12⟩) ?ra12
  case ya12 =>
    intro w hSw
    obtain ⟨hc1, hc2⟩ := XC.out w hSw
    go_simp
    (try with_reducible rfl)
  (try simp only [Act.put, List.setIfInBounds_toArray, List.set_cons_zero, List.set_cons_succ])
  refine wpAnyH_read 16 (v := ?va13) rfl (by kernel_rfl) (by kernel_rfl) (by kernel_rfl) (fun _ _ _ h => h) s2 (Or.inl ⟨by rfl, ?ya13⟩) ?ra13
  case ya13 =>
    intro w hSw
    obtain ⟨hc1, hc2⟩ := XC.out w hSw
    go_simp
    (try with_reducible rfl)
  (try simp only [Act.put, List.setIfInBounds_toArray, List.set_cons_zero, List.set_cons_succ])
  refine wpAnyH_read 17 (v := ?va14) rfl (by kernel_rfl) (by kernel_rfl) (by kernel_rfl) (fun _ _ _ h => h) s2 (Or.inl ⟨by rfl, ?ya14⟩) ?ra14
  case ya14 =>
    intro w hSw
    obtain ⟨hc1, hc2⟩ := XC.out w hSw
    go_simp
    (try with_reducible rfl)
  (try simp only [Act.put, List.setIfInBounds_toArray, List.set_cons_zero, List.set_cons_succ])
  refine wpAnyH_call 18 rfl (by kernel_rfl) (fun J hJ => ?_)
  rw [if_pos (by rfl)]
  go_simp
  refine (AW.out _ s2).mono ?_
  rintro e u3 ⟨rfl, p_⟩
  have s3 := s2.trans p_
  clear p_
  refine hJ.out _ _ s3 ?_
  clear hJ J
  (try simp only [Act.put, List.setIfInBounds_toArray, List.set_cons_zero, List.set_cons_succ])
  refine wpAnyH_read 19 (v := ?va15) rfl (by kernel_rfl) (by kernel_rfl) (by kernel_rfl) (fun _ _ _ h => h) s3 (Or.inl ⟨by rfl, ?ya15⟩) ?ra15
  case ya15 =>
    intro w hSw
    obtain ⟨hc1, hc2⟩ := XC.out w hSw
    go_simp
    (try with_reducible rfl)
  (try simp only [Act.put, List.setIfInBounds_toArray, List.set_cons_zero, List.set_cons_succ])
  refine wpAnyH_read 20 (v := ?va16) rfl (by kernel_rfl) (by kernel_rfl) (by kernel_rfl) (fun _ _ _ h => h) s3 (Or.inl ⟨by rfl, ?ya16⟩) ?ra16
  case ya16 =>
    intro w hSw
    obtain ⟨hc1, hc2⟩ := XC.out w hSw
    go_simp
    (try with_reducible rfl)
  (try simp only [Act.put, List.setIfInBounds_toArray, List.set_cons_zero, List.set_cons_succ])
  refine wpAnyH_done (by kernel_rfl) ?_ _
  go_wp2_with fail
  go_ret
  exact ⟨rfl, O8.out.trans s3⟩
end Go.Proofs.YtjjjfmnhdnajkaaGreatDoor

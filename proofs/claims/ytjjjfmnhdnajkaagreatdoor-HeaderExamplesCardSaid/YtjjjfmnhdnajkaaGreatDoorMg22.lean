/- The program's Read: its beginning, and what puts the reader behind the header. -/
/- The program's Read: the fields up to Pps. -/
/- The program's Read. -/
/- The program's Read, whole. -/
/- The program's Read. -/
import Derived.Test.YtjjjfmnhdnajkaaGreatDoorMg18
import Derived.Test.YtjjjfmnhdnajkaaGreatDoorMg13
import Derived.Defers
import Derived.StillTailTactics
import Derived.Test.YtjjjfmnhdnajkaaGreatDoorMg14
section
set_option maxRecDepth 20000
namespace Go.Proofs.YtjjjfmnhdnajkaaGreatDoor
open Go.RowKit
set_option linter.unusedVariables false
set_option linter.unusedSimpArgs false

set_option maxHeartbeats 2000000 in
theorem skip_any (b : Nat) (s : ByteArray) (pos n : Nat) (N : Int) (hN : N = n) (w : World) (h : Rd w b s pos) (hn : pos + n ≤ 8 * s.size) (hz : s.size ≤ 100000000) :
    Calls Tryz.prog 96 #[.pointer (some ⟨b, 0, none⟩), .int .i64 N] w fun e w' => e = .returned (.tuple #[]) ∧ Rd w' b s (pos + n) ∧ Only [b] w w' := by
  have H := hid h
  have HN := hid hn
  have n9 : (n : Int) ≤ 800000000 := by omega
  subst hN
  clear h hn hz
  go_enter Tryz.func96, Tryz.ntmps96
  go_wp2_with fail
  go_loopg [1] n (fun g t wr => ∃ (q : Nat), q + g = pos + n ∧ g ≤ n ∧ t = .int .i64 g ∧ Rd wr b s q ∧ Only [b] w wr)
  case atStart => exact ⟨pos, rfl, Nat.le_refl _, rfl, H.out, Only.refl _ _⟩
  case round =>
    obtain ⟨q, hq, hgn, rfl, hR, hO⟩ := hrel
    have Q := hid hq
    have R := hid hR
    have O := hid hO
    have g9 : (gk : Int) ≤ 800000000 := by omega
    clear hR hO hq
    by_cases h0 : gk = 0
    · subst h0
      clear g9
      go_wp2_with fail
      go_end0
      have e := Q.out
      rw [Nat.add_zero] at e
      exact ⟨rfl, e ▸ R.out, O.out⟩
    · have m0 : (0 : Int) < (gk : Int) := by omega
      obtain ⟨k, hk⟩ : ∃ k : Nat, min (gk : Int) 64 = (k : Int) := ⟨(min (gk : Int) 64).toNat, by omega⟩
      have k1 : 1 ≤ k := by omega
      have k2 : k ≤ 64 := by omega
      have k3 : k ≤ gk := by omega
      have U := hid (u_yes b s q k wr R.out k2 (by have := Q.out; have := HN.out; omega))
      have GK := hid (show gk - k < gk ∧ q + k + (gk - k) = pos + n ∧ gk - k ≤ n by have := Q.out; omega)
      have e1 : (gk : Int) - (k : Int) = ((gk - k : Nat) : Int) := by omega
      have E1 := hid e1
      have kb : (k : Int) ≤ 64 := by omega
      have k0 : (0 : Int) ≤ (k : Int) := by omega
      clear h0 e1 k1 k2 k3 hgn
      go_wp2_with fail
      refine U.out.mono ?_
      rintro e w2 ⟨rfl, hR, hO⟩
      have R2 := hid hR
      have O2 := hid (O.out.trans hO)
      clear hR hO U
      go_wp2_with fail
      go_roundg (gk - k)
      case measure => exact GK.out.1
      case rel => exact ⟨q + k, GK.out.2.1, GK.out.2.2, by rw [← E1.out], R2.out, O2.out⟩
set_option maxRecDepth 100000 in
set_option maxHeartbeats 4000000 in
theorem setkind_any {un : UN} {x : HV} {mv kv d1 d2 : Value} {w : World} {hb : Nat} (hB : Blk w hb 73 (hdC x mv kv un d1 d2)) (hx : x.intra = false ∧ x.whole = false) (k : Nat) (hk : k ≤ 4294967295) :
    Calls Tryz.prog 127 #[.pointer (some ⟨hb, 0, none⟩), .int .u64 k] w fun e w' => e = .returned (.int .i64 (kindR un.idr k).1) ∧ Only [hb] w w' ∧ ((kindR un.idr k).1 = 0 → Blk w' hb 73 (hdC { x with intra := (kindR un.idr k).2.1, whole := (kindR un.idr k).2.2 } mv kv un d1 d2)) := by
  have c1 := hB.cell (i := 1) (v := .bool x.intra) rfl
  have c2 := hB.cell (i := 2) (v := .bool x.whole) rfl
  have c21 := hB.cell (i := 21) (v := .bool un.idr) rfl
  have f1 := hB.frozen 1
  have f2 := hB.frozen 2
  obtain ⟨hx1, hx2⟩ := hx
  rw [hx1] at c1
  rw [hx2] at c2
  have HB := hid hB
  have HX := hid (And.intro hx1 hx2)
  have B1 := hid (fun v => (hB.set 1 (.bool v)))
  have B2 := hid (fun v => (hB.set 2 (.bool v)))
  have B12 := hid (fun u v => (hB.set 1 (.bool u)).set 2 (.bool v))
  have KR : kindR un.idr k = if k = 0 ∨ k = 5 then (if un.idr = true then 9 else 0, false, decide (5 ≤ k)) else if k = 2 ∨ k = 7 then (0, true, decide (5 ≤ k)) else (9, false, false) := rfl
  obtain ⟨i, hi⟩ : ∃ i, i = un.idr := ⟨_, rfl⟩
  rw [← hi] at c21 KR ⊢
  clear hx1 hx2 hB hi
  have OS := hid (fun (v : Value) => ((Only.refl [hb] w).setCell (p := ⟨hb, 2, none⟩) (.inl (by simp)) v))
  have OT := hid (fun (u v : Value) => (((Only.refl [hb] w).setCell (p := ⟨hb, 1, none⟩) (.inl (by simp)) u).setCell (p := ⟨hb, 2, none⟩) (.inl (by simp)) v))
  by_cases h1 : k = 0 ∨ k = 5
  · rw [if_pos h1] at KR
    cases i
    · simp only [Bool.false_eq_true, if_false] at KR
      rcases h1 with rfl | rfl
      all_goals
        rw [KR]
        clear KR
        go_enter Tryz.func127, Tryz.ntmps127
        go_wp2_with fail
        go_ret
        refine ⟨rfl, OS.out _, fun _ => ?_⟩
        have b2 := B2.out
        have hx := HX.out.1
        rw [show hdC { x with intra := false, whole := _ } mv kv un d1 d2 = (hdC x mv kv un d1 d2).setIfInBounds 2 (.bool _) from by rw [← hx]; rfl]
        exact b2 _
    · simp only [if_true] at KR
      rw [KR]
      rcases h1 with rfl | rfl
      all_goals
        clear KR
        go_enter Tryz.func127, Tryz.ntmps127
        go_wp2_with fail
        go_ret
        exact ⟨rfl, Only.refl _ _, fun h => absurd h (by decide)⟩
  · rw [if_neg h1] at KR
    by_cases h2 : k = 2 ∨ k = 7
    · rw [if_pos h2] at KR
      rcases h2 with rfl | rfl
      all_goals
        rw [KR]
        clear KR h1
        go_enter Tryz.func127, Tryz.ntmps127
        go_wp2_with fail
        go_ret
        refine ⟨rfl, OT.out _ _, fun _ => ?_⟩
        exact B12.out true _
    · rw [if_neg h2] at KR
      rw [KR]
      have e0 : ((k : Int) == 0) = false := by rw [beq_eq_false_iff_ne]; omega
      have e5 : ((k : Int) == 5) = false := by rw [beq_eq_false_iff_ne]; omega
      have e2 : ((k : Int) == 2) = false := by rw [beq_eq_false_iff_ne]; omega
      have e7 : ((k : Int) == 7) = false := by rw [beq_eq_false_iff_ne]; omega
      clear KR h1 h2
      go_enter Tryz.func127, Tryz.ntmps127
      go_wp2_with fail
      go_ret
      exact ⟨rfl, Only.refl _ _, fun h => absurd h (by decide)⟩
end Go.Proofs.YtjjjfmnhdnajkaaGreatDoor

end
section
set_option maxRecDepth 20000
namespace Go.Proofs.YtjjjfmnhdnajkaaGreatDoor
open Go.RowKit
set_option linter.unusedVariables false
set_option linter.unusedSimpArgs false

theorem hid_neg {α : Type} {c : Prop} [Decidable c] {r a b : α} (h : Hid (r = if c then a else b)) (hc : ¬ c) : Hid (r = b) := hid (by have := h.out; rwa [if_neg hc] at this)
set_option maxRecDepth 100000 in
set_option maxHeartbeats 8000000 in
theorem readbegin_any {ref : Int} {idr : Bool} {w : World} {hb A lb : Nat} {s : ByteArray} {pos : Nat} {Ls : List Nat} {f : Int → Option SV} {g : Int → Option PV} {n : Nat}
    (hB : Blk w hb 73 (hdC h0 (.slice none 0 0) (.slice none 0 0) ⟨ref, idr, p0, s0⟩ .nilFunc .nilFunc)) (hR : Rd w A s pos) (hS : StL w lb Ls f g n) (hne : hb ≠ A) (hL1 : hb ∉ Ls) (hL2 : A ∉ Ls) (hf : AllS f) (hg : AllP g) :
    Calls Tryz.prog 97 #[.pointer (some ⟨hb, 0, none⟩), .pointer (some ⟨A, 0, none⟩), .pointer (some ⟨lb, 0, none⟩)] w
      fun e w' => e = .returned (.int .i64 (readB s pos ref idr f g).1) ∧ Only [hb, A] w w' ∧ ((readB s pos ref idr f g).1 = 0 → Rd w' A s (readB s pos ref idr f g).2.2.2 ∧ Blk w' hb 73 (hdC (readB s pos ref idr f g).2.2.1 (.slice none 0 0) (.slice none 0 0) (readB s pos ref idr f g).2.1 .nilFunc .nilFunc)) := by
  obtain ⟨v1, e1, q1, x1⟩ : ∃ v e q, rdUk s pos 0 = (v, e, q) := ⟨_, _, _, rfl⟩
  obtain ⟨v2, e2, q2, x2⟩ : ∃ v e q, rdUk s q1 0 = (v, e, q) := ⟨_, _, _, rfl⟩
  obtain ⟨v3, e3, q3, x3⟩ : ∃ v e q, rdUk s q2 0 = (v, e, q) := ⟨_, _, _, rfl⟩
  obtain ⟨ke, ka, kb, x4⟩ : ∃ a b c, kindR idr v2 = (a, b, c) := ⟨_, _, _, rfl⟩
  obtain ⟨p, s', e4, x5⟩ : ∃ p s' e, getR f g (v3 : Int) = (p, s', e) := ⟨_, _, _, rfl⟩
  have b1 := rdUk_lt s pos 0
  have b2 := rdUk_lt s q1 0
  have b3 := rdUk_lt s q2 0
  have p32 : (2 : Nat) ^ (32 + 0) = 4294967296 := by decide
  rw [x1, p32] at b1
  rw [x2, p32] at b2
  rw [x3, p32] at b3
  obtain ⟨r, hr⟩ : ∃ r, r = readB s pos ref idr f g := ⟨_, rfl⟩
  rw [← hr]
  unfold readB at hr
  simp only [x1, x2, x3, x4, x5] at hr
  have RR := hid hr
  have X1 := hid x1
  have X2 := hid x2
  have X3 := hid x3
  have X4 := hid x4
  have X5 := hid x5
  have HB := hid hB
  have HR := hid hR
  have HS := hid hS
  have NE := hid (And.intro hne (And.intro hL1 hL2))
  have UE := hid (fun pos v e q w (h : Rd w A s pos) hr => ue_three A s pos w h v e q hr)
  have FG := hid (And.intro hf hg)
  obtain ⟨r1, r2, r3, r4⟩ := r
  dsimp only at b1 b2 b3 ⊢
  clear hr x1 x2 x3 x4 x5 hB hR hS hne hL1 hL2 p32 hf hg
  go_enter Tryz.func97, Tryz.ntmps97
  go_wp2_with fail
  refine (UE.out pos v1 e1 q1 w HR.out X1.out).mono ?_
  rintro e w1 ⟨rfl, hR1, hO1⟩
  have R1 := hid hR1
  have O1 := hid (hO1.mono (T := [hb, A]) (by intro y _ h; simp at h ⊢; exact .inr h))
  have B1 := hid (HB.out.only hO1 (by simpa using NE.out.1))
  have S1 := hid (HS.out.only hO1 (fun y hy h => by simp at h; subst h; exact NE.out.2.2 hy))
  clear hR1 hO1 HB HR HS
  by_cases c1 : ¬ e1 = 0
  · have E0 := hid c1
    have hz := RR.out
    rw [if_pos E0.out] at hz
    simp only [Prod.mk.injEq] at hz
    obtain ⟨rfl, _⟩ := hz
    clear RR
    go_wp2_with fail
    go_ret
    exact ⟨rfl, O1.out, fun h => absurd h E0.out⟩
  obtain rfl : e1 = 0 := Classical.not_not.1 c1
  clear c1
  replace RR := hid_neg RR (by simp)
  go_wp2_with fail
  refine (UE.out q1 v2 e2 q2 w1 R1.out X2.out).mono ?_
  rintro e w2 ⟨rfl, hR2, hO2⟩
  have R2 := hid hR2
  have O2 := hid (O1.out.trans (hO2.mono (T := [hb, A]) (by intro y _ h; simp at h ⊢; exact .inr h)))
  have B2 := hid (B1.out.only hO2 (by simpa using NE.out.1))
  have S2 := hid (S1.out.only hO2 (fun y hy h => by simp at h; subst h; exact NE.out.2.2 hy))
  clear hR2 hO2 B1 R1 S1 O1
  have O1 := O2
  clear O2
  by_cases c2 : ¬ e2 = 0
  · have E0 := hid c2
    have hz := RR.out
    rw [if_pos E0.out] at hz
    simp only [Prod.mk.injEq] at hz
    obtain ⟨rfl, _⟩ := hz
    clear RR
    go_wp2_with fail
    go_ret
    exact ⟨rfl, O1.out, fun h => absurd h E0.out⟩
  obtain rfl : e2 = 0 := Classical.not_not.1 c2
  clear c2
  replace RR := hid_neg RR (by simp)
  have SK := hid (setkind_any B2.out ⟨rfl, rfl⟩ v2 (by omega))
  rw [show kindR (⟨ref, idr, p0, s0⟩ : UN).idr v2 = kindR idr v2 from rfl, X4.out] at SK
  go_wp2_with fail
  refine SK.out.mono ?_
  rintro e w3 ⟨rfl, hO3, hB3⟩
  have R3 := hid (R2.out.only hO3 (by simpa using Ne.symm NE.out.1))
  have S3 := hid (S2.out.only hO3 (fun y hy h => by simp at h; subst h; exact NE.out.2.1 hy))
  have O3 := hid (O1.out.trans (hO3.mono (T := [hb, A]) (by intro y _ h; simp at h ⊢; exact .inl h)))
  have B3 := hid hB3
  clear hO3 hB3 B2 R2 S2 O1 SK
  have O1 := O3
  clear O3
  by_cases c3 : ¬ ke = 0
  · have E0 := hid c3
    have k9 : ke = 9 := by
      have h := X4.out
      unfold kindR at h
      have := E0.out
      split at h
      · split at h <;> simp_all
      · split at h <;> simp_all
    have hz := RR.out
    rw [if_pos E0.out] at hz
    simp only [Prod.mk.injEq] at hz
    obtain ⟨rfl, _⟩ := hz
    subst k9
    clear RR
    go_wp2_with fail
    go_ret
    exact ⟨rfl, O1.out, fun h => absurd h (by decide)⟩
  obtain rfl : ke = 0 := Classical.not_not.1 c3
  clear c3
  replace RR := hid_neg RR (by simp)
  go_wp2_with fail
  refine (UE.out q2 v3 e3 q3 w3 R3.out X3.out).mono ?_
  rintro e w4 ⟨rfl, hR4, hO4⟩
  have R4 := hid hR4
  have O4 := hid (O1.out.trans (hO4.mono (T := [hb, A]) (by intro y _ h; simp at h ⊢; exact .inr h)))
  have B4 := hid ((B3.out (by simp)).only hO4 (by simpa using NE.out.1))
  have S4 := hid (S3.out.only hO4 (fun y hy h => by simp at h; subst h; exact NE.out.2.2 hy))
  clear hR4 hO4 B3 R3 S3 O1
  have O1 := O4
  clear O4
  by_cases c4 : ¬ e3 = 0
  · have E0 := hid c4
    have hz := RR.out
    rw [if_pos E0.out] at hz
    simp only [Prod.mk.injEq] at hz
    obtain ⟨rfl, _⟩ := hz
    clear RR
    go_wp2_with fail
    go_ret
    exact ⟨rfl, O1.out, fun h => absurd h E0.out⟩
  obtain rfl : e3 = 0 := Classical.not_not.1 c4
  clear c4
  replace RR := hid_neg RR (by simp)
  go_wp2_with fail
  refine (get_any S4.out (v3 : Int) X5.out).mono ?_
  rintro e w5 ⟨rfl, hO5⟩
  have R5 := hid (R4.out.only hO5 (by simp))
  have B5 := hid (B4.out.only hO5 (by simp))
  have O5 := hid (O1.out.trans (hO5.mono (by simp)))
  clear hO5 B4 R4 S4 O1
  by_cases c5 : ¬ e4 = 0
  · have E0 := hid c5
    have hz := RR.out
    rw [if_pos E0.out] at hz
    simp only [Prod.mk.injEq] at hz
    obtain ⟨rfl, _⟩ := hz
    clear RR
    go_wp2_with (first | (refine store_blk rfl 24 _ _ rfl hb 22 _ _ (pL p) rfl rfl (by kernel_rfl) B5.out (by rw [hdC_size]; show 22 + 10 ≤ 43; omega) (one_pL p) ?_; intro w6 hB6 hO6; rw [setsA_p] at hB6; have B6 := hid hB6; have O6 := hid (O5.out.trans (hO6.mono (T := [hb, A]) (by intro y _ h; simp at h ⊢; exact .inl h))); have R6 := hid (R5.out.only hO6 (by simpa using Ne.symm NE.out.1)); clear hB6 hO6) | (refine store_blk rfl 27 _ _ rfl hb 32 _ _ (sL s') rfl rfl (by kernel_rfl) B6.out (by rw [hdC_size]; show 32 + 9 ≤ 43; omega) (one_sL s') ?_; intro w7 hB7 hO7; rw [setsA_s] at hB7; have B7 := hid hB7; have O7 := hid (O6.out.trans (hO7.mono (T := [hb, A]) (by intro y _ h; simp at h ⊢; exact .inl h))); have R7 := hid (R6.out.only hO7 (by simpa using Ne.symm NE.out.1)); clear hB7 hO7))
    go_ret
    first | exact ⟨rfl, O7.out, fun h => absurd h E0.out⟩ | exact ⟨rfl, O7.out⟩
  obtain rfl : e4 = 0 := Classical.not_not.1 c5
  clear c5
  replace RR := hid_neg RR (by simp)
  have OK := hid (getR_ok FG.out.1 FG.out.2 X5.out)
  go_upto_region 16 with (first | (refine store_blk rfl 24 _ _ rfl hb 22 _ _ (pL p) rfl rfl (by kernel_rfl) B5.out (by rw [hdC_size]; show 22 + 10 ≤ 43; omega) (one_pL p) ?_; intro w6 hB6 hO6; rw [setsA_p] at hB6; have B6 := hid hB6; have O6 := hid (O5.out.trans (hO6.mono (T := [hb, A]) (by intro y _ h; simp at h ⊢; exact .inl h))); have R6 := hid (R5.out.only hO6 (by simpa using Ne.symm NE.out.1)); clear hB6 hO6) | (refine store_blk rfl 27 _ _ rfl hb 32 _ _ (sL s') rfl rfl (by kernel_rfl) B6.out (by rw [hdC_size]; show 32 + 9 ≤ 43; omega) (one_sL s') ?_; intro w7 hB7 hO7; rw [setsA_s] at hB7; have B7 := hid hB7; have O7 := hid (O6.out.trans (hO7.mono (T := [hb, A]) (by intro y _ h; simp at h ⊢; exact .inl h))); have R7 := hid (R6.out.only hO7 (by simpa using Ne.symm NE.out.1)); clear hB7 hO7))
  have B8 := hid (show Blk w7 hb 73 (hdC { h0 with intra := ka, whole := kb } (.slice none 0 0) (.slice none 0 0) ⟨ref, idr, p, s'⟩ .nilFunc .nilFunc) from B7.out)
  have c0 := B8.out.cell (i := 0) (v := .int .i64 0) rfl
  have c3 := B8.out.cell (i := 3) (v := .int .i64 0) rfl
  have f0 := B8.out.frozen 0
  have f3 := B8.out.frozen 3
  have B9 := hid (show Blk ((w7.setCell ⟨hb, 0, none⟩ (.int .i64 v1)).setCell ⟨hb, 3, none⟩ (.int .i64 v3)) hb 73 (hdC { h0 with fi := (v1 : Int), intra := ka, whole := kb, pps := (v3 : Int) } (.slice none 0 0) (.slice none 0 0) ⟨ref, idr, p, s'⟩ .nilFunc .nilFunc) from (B8.out.set 0 (.int .i64 v1)).set 3 (.int .i64 v3))
  have OS := hid (show Only [hb] w7 ((w7.setCell ⟨hb, 0, none⟩ (.int .i64 v1)).setCell ⟨hb, 3, none⟩ (.int .i64 v3)) from ((Only.refl _ _).setCell (.inl (by simp)) _).setCell (.inl (by simp)) _)
  have CF := hid (checkfirst_any B9.out OK.out.2.1)
  have R9 := hid (R7.out.only OS.out (by simpa using Ne.symm NE.out.1))
  have O9 := hid (O7.out.trans (OS.out.mono (T := [hb, A]) (by intro y _ h; simp at h ⊢; exact .inl h)))
  clear B5 R5 O5 B6 R6 O6 B7 R7 O7 B8 OS UE X2 X3 X4 OK
  go_wp2_with fail
  refine CF.out.mono ?_
  rintro e w10 ⟨rfl, hO10⟩
  go_wp2_with fail
  go_ret
  have hz := RR.out
  simp only [Prod.mk.injEq] at hz
  obtain ⟨rfl, rfl, rfl, rfl⟩ := hz
  exact ⟨rfl, O9.out.trans (hO10.mono (by simp)), fun _ => ⟨R9.out.only hO10 (by simp), B9.out.only hO10 (by simp)⟩⟩
end Go.Proofs.YtjjjfmnhdnajkaaGreatDoor

end
section
set_option maxRecDepth 20000
namespace Go.Proofs.YtjjjfmnhdnajkaaGreatDoor
open Go.RowKit
set_option linter.unusedVariables false
set_option linter.unusedSimpArgs false

set_option maxRecDepth 100000 in
set_option maxHeartbeats 4000000 in
/-- The deferred function: the reader follows its copy, unless there was an error. -/
theorem read1_any {E R C b A : Nat} {er : Int} {s : ByteArray} {pos q : Nat} {u : FrameMode} {w : World} (hE : w.cell? ⟨E, 0, none⟩ = some (.int .i64 er)) (hR : w.cell? ⟨R, 0, none⟩ = some (.pointer (some ⟨b, 0, none⟩))) (hC : w.cell? ⟨C, 0, none⟩ = some (.pointer (some ⟨A, 0, none⟩)))
    (hb : Rd w b s pos) (ha : er = 0 → Rd w A s q ∧ pos ≤ q ∧ q ≤ 8 * s.size) (hz : s.size ≤ 100000000) :
    CallsD Tryz.prog 95 #[.pointer (some ⟨E, 0, none⟩), .pointer (some ⟨R, 0, none⟩), .pointer (some ⟨C, 0, none⟩)] u w fun e u' w' => u' = u ∧ (e = .returned (.tuple #[]) ∧ Only [b] w w' ∧ Rd w' b s (if er = 0 then q else pos)) := by
  have HB := hid hb
  have HA := hid ha
  clear hb ha
  by_cases h0 : er = 0
  · subst h0
    obtain ⟨ra, r1, r2⟩ := HA.out rfl
    have RA := hid ra
    have SK := hid (fun w h => skip_any b s pos (q - pos) ((q : Int) - (pos : Int)) (by omega) w h (by omega) hz)
    have QP := hid (show pos + (q - pos) = q by omega)
    have i1 : (pos : Int) ≤ (q : Int) := by omega
    have i2 : (q : Int) ≤ 800000000 := by omega
    have i3 : (0 : Int) ≤ (pos : Int) := by omega
    have s1 : IntKind.i64.wrap ((q : Int) - (pos : Int)) = (q : Int) - (pos : Int) := IntWalk.i64_in _ ⟨by omega, by omega⟩
    have PA := hid (fun w h => pos_any A s q w h)
    have PB := hid (fun w h => pos_any b s pos w h)
    rw [if_pos rfl]
    clear ra r1 r2 HA hz
    go_enter_d Tryz.func95, Tryz.ntmps95
    go_wp2_with fail
    refine wp_region_still_tail 6 (by kernel_rfl) (by kernel_rfl) ?_
    simp only [List.take_succ_cons, List.take_zero, List.drop_succ_cons, List.drop_zero]
    still_step
    still_step
    still_call ((PA.out _ (by first | exact RA.out.drewN _ | exact RA.out.drew | exact RA.out)).mono fun e w' ⟨h1, h2⟩ => ⟨h1, h2.symm⟩)
    still_step
    still_call ((PB.out _ (by first | exact HB.out.drewN _ | exact HB.out.drew | exact HB.out)).mono fun e w' ⟨h1, h2⟩ => ⟨h1, h2.symm⟩)
    still_step
    refine wpStill_nil ?_
    have HD := hid (HB.out.drew)
    have OD := hid ((Only.refl [b] w).drew)
    trace_state
    go_wp2_with fail
    refine (SK.out _ HD.out).mono ?_
    rintro e w2 ⟨rfl, hR, hO⟩
    go_wp2_with fail
    go_end0
    refine ⟨rfl, OD.out.trans hO, ?_⟩
    have := hR
    rw [QP.out] at this
    exact this
  · rw [if_neg h0]
    have hd : (er == 0) = false := by simpa using h0
    clear h0 HA hz
    go_enter_d Tryz.func95, Tryz.ntmps95
    go_wp2_with fail
    go_end0
    exact ⟨rfl, Only.refl _ _, HB.out⟩
end Go.Proofs.YtjjjfmnhdnajkaaGreatDoor

end
section
set_option maxRecDepth 20000
namespace Go.Proofs.YtjjjfmnhdnajkaaGreatDoor
open Go.RowKit
set_option linter.unusedVariables false
set_option linter.unusedSimpArgs false

theorem readT_eq (s : ByteArray) (rb : Int × UN × HV × Nat) : readT s rb = if rb.1 ≠ 0 then (rb.1, h0, 0) else runH (rdM s) rb.2.1 15 0 rb.2.2.1 rb.2.2.2 := by
  unfold readT
  by_cases h : rb.1 = 0
  · rw [if_neg (fun k => k h), if_neg (fun k => k h)]
    generalize runH (rdM s) rb.2.1 15 0 rb.2.2.1 rb.2.2.2 = r
    obtain ⟨a, b, c⟩ := r
    unfold thenF
    by_cases ha : a = 0
    · subst ha; simp
    · rw [if_pos ha]
  · rw [if_pos h, if_pos h]
/-- What is known behind the fields up to Pps. -/
theorem readB_ok {s : ByteArray} {pos : Nat} {ref : Int} {idr : Bool} {f : Int → Option SV} {g : Int → Option PV} {rb : Int × UN × HV × Nat} (hrb : rb = readB s pos ref idr f g) (hf : AllS f) (hg : AllP g) (hq : pos ≤ 8 * s.size) (h : rb.1 = 0) :
    okS rb.2.1.s = true ∧ okP rb.2.1.p = true ∧ trunc 0 rb.2.2.1 = rb.2.2.1 ∧ pos ≤ rb.2.2.2 ∧ rb.2.2.2 ≤ 8 * s.size := by
  obtain ⟨e, un, y, q⟩ := rb
  dsimp only at h ⊢
  subst h
  obtain ⟨_, _, g1, t1, _, _, B1, z1⟩ := readB_back hq hrb.symm
  obtain ⟨o1, o2, _, _⟩ := getR_ok hf hg g1
  exact ⟨o2, o1, t1, by omega, by rw [z1]; exact B1.1⟩
def HRead (s : ByteArray) (pos : Nat) (hb b : Nat) (w : World) (r : Int × HV × Nat) (e : Ending) (w' : World) : Prop :=
  e = .returned (.int .i64 r.1) ∧ Only [hb, b] w w' ∧ Rd w' b s (if r.1 = 0 then r.2.2 else pos) ∧ (r.1 = 0 → ∃ mv kv un d1 d2, Blk w' hb 73 (hdC r.2.1 mv kv un d1 d2) ∧ HoldsM w' mv r.2.1.mods ∧ HoldsM w' kv r.2.1.marks ∧ (∀ ad n c, mv = .slice (some ad) n c → r.2.1.mods ≠ [] → w.heap.size ≤ ad.block) ∧ (∀ ad n c, kv = .slice (some ad) n c → r.2.1.marks ≠ [] → w.heap.size ≤ ad.block))
set_option maxRecDepth 100000 in
set_option maxHeartbeats 8000000 in
theorem headread_any {ref : Int} {idr : Bool} {w : World} {hb b lb : Nat} {s : ByteArray} {pos : Nat} {Ls : List Nat} {f : Int → Option SV} {g : Int → Option PV} {n : Nat} (hVr : Vars w)
    (hB : Blk w hb 73 (hdC h0 (.slice none 0 0) (.slice none 0 0) ⟨ref, idr, p0, s0⟩ .nilFunc .nilFunc)) (hR : Rd w b s pos) (hS : StL w lb Ls f g n) (hne : hb ≠ b) (hL1 : hb ∉ Ls) (hL2 : b ∉ Ls) (hG : ∀ m, kindG m ≠ hb) (hf : AllS f) (hg : AllP g) (hz : s.size ≤ 100000000) :
    Calls Tryz.prog 43 #[.pointer (some ⟨hb, 0, none⟩), .pointer (some ⟨b, 0, none⟩), .pointer (some ⟨lb, 0, none⟩)] w (HRead s pos hb b w (readT s (readB s pos ref idr f g))) := by
  have hmf : ∀ (fn : Fn) (first cap : Array Value) (w : World), (Instr.makeFunc fn first cap).run Tryz.prog w = .ok (.func fn first cap) w := fun _ _ _ _ => rfl
  have HB := hid hB
  have HR := hid hR
  have HS := hid hS
  have VV := hid hVr
  have NE := hid (And.intro hne (And.intro hL1 (And.intro hL2 (And.intro hG (And.intro hf (And.intro hg hz))))))
  have RB : ∀ (w3 : World) (A : Nat), Blk w3 hb 73 (hdC h0 (.slice none 0 0) (.slice none 0 0) ⟨ref, idr, p0, s0⟩ .nilFunc .nilFunc) → Rd w3 A s pos → StL w3 lb Ls f g n → hb ≠ A → A ∉ Ls →
      Calls Tryz.prog 97 #[.pointer (some ⟨hb, 0, none⟩), .pointer (some ⟨A, 0, none⟩), .pointer (some ⟨lb, 0, none⟩)] w3
      fun e w' => e = .returned (.int .i64 (readB s pos ref idr f g).1) ∧ Only [hb, A] w3 w' ∧ ((readB s pos ref idr f g).1 = 0 → Rd w' A s (readB s pos ref idr f g).2.2.2 ∧ Blk w' hb 73 (hdC (readB s pos ref idr f g).2.2.1 (.slice none 0 0) (.slice none 0 0) (readB s pos ref idr f g).2.1 .nilFunc .nilFunc)) :=
    fun w3 A h1 h2 h3 h4 h5 => readbegin_any h1 h2 h3 h4 hL1 h5 hf hg
  have RK := hid (fun rb h => readB_ok (rb := rb) (s := s) (pos := pos) (ref := ref) (idr := idr) h hf hg hR.le)
  obtain ⟨rb, hrb⟩ : ∃ rb, rb = readB s pos ref idr f g := ⟨_, rfl⟩
  rw [← hrb] at RB ⊢
  replace RK := hid (RK.out rb hrb)
  have RT := hid (readT_eq s rb)
  obtain ⟨rt, hrt⟩ : ∃ rt, rt = readT s rb := ⟨_, rfl⟩
  rw [← hrt] at RT ⊢
  replace RB := hid RB
  obtain ⟨b1, bu, bx, bq⟩ := rb
  dsimp only at RB RK RT
  clear hVr hB hR hS hne hL1 hL2 hG hf hg hz hrb hrt
  go_enter_defers Tryz.func43, Tryz.ntmps43
  go_wp2_with fail
  obtain ⟨w1, hw1⟩ : ∃ w1, w1 = (w.alloc (.cells #[.pointer (some ⟨b, 0, none⟩)] 53)).alloc (.cells #[.int .i64 0] 41) := ⟨_, rfl⟩
  rw [← hw1]
  have O1 := hid (show Only [] w w1 from hw1 ▸ (((Only.refl [] w).alloc _).alloc _))
  have BR := hid (show Boxed w1 w.heap.size 53 (.pointer (some ⟨b, 0, none⟩)) from hw1 ▸ (Boxed.new w _ _).alloc _)
  have BE := hid (show Boxed w1 (w.heap.size + 1) 41 (.int .i64 0) from by
    have := Boxed.new (w.alloc (.cells #[.pointer (some ⟨b, 0, none⟩)] 53)) 41 (.int .i64 0)
    rw [World.size_alloc] at this
    exact hw1 ▸ this)
  have Z1 := hid (show w1.heap.size = w.heap.size + 1 + 1 by rw [hw1]; simp)
  have LT := hid (And.intro HB.out.lt HR.out.lt)
  obtain ⟨N, hN⟩ : ∃ N, N = w.heap.size := ⟨_, rfl⟩
  rw [← hN] at BR BE Z1 LT ⊢
  have NN := hid hN
  clear hw1 hN
  refine (copy_any b s pos w1 (HR.out.only O1.out (by simp))).mono ?_
  rintro e w2 ⟨rfl, hA, hO2⟩
  obtain ⟨A, hA'⟩ : ∃ A, A = w1.heap.size := ⟨_, rfl⟩
  rw [← hA'] at hA ⊢
  have AN := hid (show A = N + 1 + 1 by rw [hA', Z1.out])
  have A2 := hid hA
  have O2 := hid (O1.out.trans hO2)
  have BR2 := hid (boxed_only BR.out hO2 (by simp))
  have BE2 := hid (boxed_only BE.out hO2 (by simp))
  clear hA hO2 BR BE O1 Z1 hA'
  go_wp2_with fail
  obtain ⟨C, hC⟩ : ∃ C, C = w2.heap.size := ⟨_, rfl⟩
  obtain ⟨w3, hw3⟩ : ∃ w3, w3 = w2.alloc (.cells #[.pointer (some ⟨A, 0, none⟩)] 53) := ⟨_, rfl⟩
  rw [← hw3, ← hC]
  have oc : Only [] w2 w3 := hw3 ▸ (Only.refl [] w2).alloc _
  have O3 := hid (O2.out.trans oc)
  have BC := hid (show Boxed w3 C 53 (.pointer (some ⟨A, 0, none⟩)) from by rw [hw3, hC]; exact Boxed.new w2 _ _)
  have BR3 := hid (boxed_only BR2.out oc (by simp))
  have BE3 := hid (boxed_only BE2.out oc (by simp))
  have A3 := hid (A2.out.only oc (by simp))
  have CL := hid (show A < C by rw [hC]; exact A2.out.lt)
  clear hw3 hC oc O2 BR2 BE2 A2
  refine (RB.out w3 A (HB.out.only O3.out (by simp)) A3.out (HS.out.only O3.out (by simp)) (by have := LT.out.1; have := AN.out; omega) (fun h => by have := HS.out.lt A h; have := NN.out; have := AN.out; omega)).mono ?_
  rintro e w4 ⟨rfl, hO4, hK4⟩
  have NA : ∀ y, y ∈ [hb, A] → y ≠ N ∧ y ≠ N + 1 ∧ y ≠ C ∧ y ≠ b := by
    intro y hy
    have h1 := LT.out
    have h2 := AN.out
    have h3 := CL.out
    have h4 := NE.out.1
    simp at hy
    omega
  have NAH := hid NA
  have O4 := hid (show Only [hb, b] w w4 from (O3.out.mono (T := [hb, b]) (by simp)).trans2 hO4 (fun y hy => by
    have := AN.out
    have := NN.out
    simp at hy ⊢
    omega))
  have BE4 := hid (boxed_only BE3.out hO4 (fun h => (NAH.out _ h).2.1 rfl))
  have BR4 := hid (boxed_only BR3.out hO4 (fun h => (NAH.out _ h).1 rfl))
  have BC4 := hid (boxed_only BC.out hO4 (fun h => (NAH.out _ h).2.2.1 rfl))
  have R4 := hid ((HR.out.only O3.out (by simp)).only hO4 (fun h => (NAH.out _ h).2.2.2 rfl))
  have be := BE4.out.cell
  have bf := BE4.out.frozen
  have K4 := hid hK4
  clear hO4 hK4 BE3 BR3 BC A3 O3 NA RB
  by_cases h1 : b1 = 0
  · subst h1
    have hz := RT.out
    rw [if_neg (by simp)] at hz
    replace RT := hid hz
    obtain ⟨k1, k2, k3, k4, k5⟩ := RK.out rfl
    obtain ⟨ka, kb⟩ := K4.out rfl
    have KS := hid (And.intro k1 (And.intro k2 (And.intro k3 (And.intro k4 k5))))
    have A4 := hid ka
    have B4 := hid kb
    have m1 : bx.mods = [] := by rw [← k3]; rfl
    have m2 : bx.marks = [] := by rw [← k3]; rfl
    have MM := hid (And.intro m1 m2)
    have bc4 := BC4.out.cell
    have OS := hid (show Only [N + 1] w4 (w4.setCell ⟨N + 1, 0, none⟩ (.int .i64 0)) from (Only.refl _ _).setCell (.inl (by simp)) _)
    have BE5 := hid (BE4.out.set (.int .i64 0))
    obtain ⟨w5, hw5⟩ : ∃ w5, w5 = w4.setCell ⟨N + 1, 0, none⟩ (.int .i64 0) := ⟨_, rfl⟩
    rw [← hw5] at OS BE5
    have bc5 := (boxed_only BC4.out OS.out (by have := CL.out; have := AN.out; simp; omega)).cell
    have TH : ∀ o, Calls Tryz.prog 31 #[.pointer (some ⟨hb, 0, none⟩), .agg #[.func (.func 98) #[.agg #[.pointer (some ⟨A, 0, none⟩)]] #[], .func (.func 99) #[.agg #[.pointer (some ⟨A, 0, none⟩)]] #[]]] (w5.alloc o)
        (FPost (rdE A s (List.range w4.heap.size)) bu (w5.alloc o) [hb, A] hb 30 rt) := by
      intro o
      rw [RT.out]
      have oa := (Only.refl [] w5).alloc o
      have hA5 : A ∉ [N + 1] := by have := AN.out; simp; omega
      have hB5 : hb ∉ [N + 1] := by have := LT.out.1; simp; omega
      have v6 : Vars (w5.alloc o) := (((VV.out.only O4.out (fun m h => by
        simp at h
        rcases h with h | h
        · exact NE.out.2.2.2.1 m h
        · exact VV.out.not_rd HR.out m h)).only OS.out (fun m h => by
          have := VV.out.lt m
          have := NN.out
          simp at h; omega))).only0 oa
      refine through_any (E := rdE A s (List.range w4.heap.size)) (un := bu) (W0 := w5.alloc o) (S0 := [hb, A]) (n := 0) (x := bx) (st := bq)
        ⟨⟨[A], .slice none 0 0, .slice none 0 0, (B4.out.only OS.out hB5).only oa (by simp), ⟨rfl, (A4.out.only OS.out hA5).only oa (by simp), v6⟩, by have := LT.out.1; have := AN.out; simp; omega, by rw [MM.out.1]; exact Sl.none _ _, by rw [MM.out.2]; exact Sl.none _ _, fun y hy => .inl hy, (fun _ _ _ e => by cases e), (fun _ _ _ e => by cases e), fun y hy => ?_⟩, Only.refl _ _⟩
        (by omega) NE.out.2.2.2.1 KS.out.1 KS.out.2.1 rfl rfl (fun _ _ _ => True) trivial (fun j x st _ => ⟨rd_ok s bu x j, fun _ => trivial⟩)
      have h1 : y < w4.heap.size := by simpa [rdE] using hy
      have h3 := OS.out.size
      have h4 := oa.size
      omega
    replace TH := hid TH
    have bc6 : (w4.setCell ⟨N + 1, 0, none⟩ (.int .i64 0)).cell? ⟨C, 0, none⟩ = some (.pointer (some ⟨A, 0, none⟩)) := hw5 ▸ bc5
    have W5 := hid hw5
    clear hw5 bc5
    go_wp2_with fail
    rw [← W5.out]
    refine (TH.out _).mono ?_
    rintro e w7 ⟨rfl, hH⟩
    clear TH
    obtain ⟨r1, r2, r3⟩ := rt
    dsimp only at hH RT ⊢
    obtain ⟨⟨T, mv, kv, gB, ⟨rfl, gR, gV⟩, _, gm, gk, gO⟩, gP⟩ := hH
    have O57 := hid (show Only [hb, A] w5 w7 from (((Only.refl [] w5).alloc _).mono (by simp)).trans gP)
    have BE7 := hid (boxed_only BE5.out O57.out (fun h => (NAH.out _ h).2.1 rfl))
    have BR7 := hid (boxed_only (boxed_only BR4.out OS.out (by simp)) O57.out (fun h => (NAH.out _ h).1 rfl))
    have BC7 := hid (boxed_only (boxed_only BC4.out OS.out (by have := CL.out; have := AN.out; simp; omega)) O57.out (fun h => (NAH.out _ h).2.2.1 rfl))
    have R7 := hid ((R4.out.only OS.out (by have := LT.out.2; simp; omega)).only O57.out (fun h => (NAH.out _ h).2.2.2 rfl))
    have X7 : ∀ (v : Value) (l : List (Int × Int × Int)), Ap v l (List.range w4.heap.size) → ∀ ad n c, v = .slice (some ad) n c → l ≠ [] → w4.heap.size ≤ ad.block := fun v l h ad n c e hl => by
      have := h ad n c e hl
      simpa using this
    have M7 := hid (And.intro gm.h (X7 _ _ gO.2.1))
    have K7 := hid (And.intro gk.h (X7 _ _ gO.2.2.1))
    have P7 := hid gB
    have A7 := hid gR
    have QB := hid (show r1 = 0 → bq ≤ r3 by
      rintro rfl
      obtain ⟨_, _, _, e⟩ := rd_only KS.out.1 KS.out.2.1 15 0 bq r3 bx r2 (by omega) KS.out.2.2.2.2 KS.out.2.2.1 RT.out.symm
      omega)
    have EL := hid BE4.out.lt
    have be7 := BE7.out.cell
    have bf7 := BE7.out.frozen
    clear gP gB gR gV gm gk gO X7 hz be bf k1 k2 k3 k4 k5 ka kb m1 m2 bc4 bc6 RK K4 W5
    go_wp2_with fail
    refine leaves_cons (f := 95) (args := #[.pointer (some ⟨N + 1, 0, none⟩), .pointer (some ⟨N, 0, none⟩), .pointer (some ⟨C, 0, none⟩)]) (by simp) (by simp [go_sem]) ?_
    have OS8 := hid (show Only [N + 1] w7 (w7.setCell ⟨N + 1, 0, none⟩ (.int .i64 r1)) from (Only.refl _ _).setCell (.inl (by simp)) _)
    have BE8 := hid (BE7.out.set (.int .i64 r1))
    refine (read1_any (E := N + 1) (R := N) (C := C) (b := b) (A := A) (er := r1) (s := s) (pos := pos) (q := r3) BE8.out.cell (boxed_only BR7.out OS8.out (by simp)).cell (boxed_only BC7.out OS8.out (by have := CL.out; have := AN.out; simp; omega)).cell (R7.out.only OS8.out (by have := LT.out.2; simp; omega))
      (fun h => ⟨A7.out.only OS8.out (by have := AN.out; simp; omega), Nat.le_trans KS.out.2.2.2.1 (QB.out h), A7.out.le⟩) NE.out.2.2.2.2.2.2).mono ?_
    rintro e u' w9 ⟨rfl, rfl, hO9, hR9⟩
    have be9 := (boxed_only BE8.out hO9 (by have := LT.out.2; simp; omega)).cell
    have HOL : ∀ (v : Value) (l : List (Int × Int × Int)), HoldsM w7 v l → (∀ ad n c, v = .slice (some ad) n c → l ≠ [] → w4.heap.size ≤ ad.block) → HoldsM w9 v l ∧ ∀ ad n c, v = .slice (some ad) n c → l ≠ [] → w.heap.size ≤ ad.block := fun v l h1 h2 => by
      refine ⟨(h1.only2 OS8.out (fun ad n c e hl => ?_)).only2 hO9 (fun ad n c e hl => ?_), fun ad n c e hl => Nat.le_trans O4.out.size (h2 ad n c e hl)⟩
      · have := h2 ad n c e hl; have := EL.out; simp; omega
      · have := h2 ad n c e hl; have := EL.out; have := LT.out.2; simp; omega
    have NEQ := NE.out.1
    have LTN := LT.out
    have ANN := AN.out
    refine ⟨.int .i64 r1, by simp [results, Tryz.results43, go_sem, be9], rfl, ?_, hR9, fun h => ⟨mv, kv, bu, _, _, (P7.out.only OS8.out (by simp; omega)).only hO9 (by simpa using NEQ), (HOL _ _ M7.out.1 M7.out.2).1, (HOL _ _ K7.out.1 K7.out.2).1, (HOL _ _ M7.out.1 M7.out.2).2, (HOL _ _ K7.out.1 K7.out.2).2⟩⟩
    refine (((O4.out.trans2 OS.out (fun y hy => ?_)).trans2 O57.out (fun y hy => ?_)).trans2 OS8.out (fun y hy => ?_)).trans (hO9.mono (by intro y _ hy; simp at hy ⊢; exact .inr hy))
    · have := NN.out; simp at hy; exact .inr (by omega)
    · have := NN.out
      simp at hy ⊢
      omega
    · have := NN.out; simp at hy; exact .inr (by omega)
  · have E0 := hid h1
    have hz := RT.out
    rw [if_pos E0.out] at hz
    subst hz
    clear RT RK K4
    go_wp2_with fail
    refine leaves_cons (f := 95) (args := #[.pointer (some ⟨N + 1, 0, none⟩), .pointer (some ⟨N, 0, none⟩), .pointer (some ⟨C, 0, none⟩)]) (by simp) (by simp [go_sem]) ?_
    have OS := hid (show Only [N + 1] w4 ((w4.setCell ⟨N + 1, 0, none⟩ (.int .i64 b1)).setCell ⟨N + 1, 0, none⟩ (.int .i64 b1)) from ((Only.refl _ _).setCell (.inl (by simp)) _).setCell (.inl (by simp)) _)
    have BE5 := hid ((BE4.out.set (.int .i64 b1)).set (.int .i64 b1))
    refine (read1_any (E := N + 1) (R := N) (C := C) (b := b) (A := A) (er := b1) (s := s) (pos := pos) (q := 0) BE5.out.cell (boxed_only BR4.out OS.out (by simp)).cell (boxed_only BC4.out OS.out (by have := CL.out; have := AN.out; simp; omega)).cell (R4.out.only OS.out (by have := LT.out.2; simp; omega)) (fun h => absurd h E0.out) NE.out.2.2.2.2.2.2).mono ?_
    rintro e u' w7 ⟨rfl, rfl, hO7, hR7⟩
    have be7 := (boxed_only BE5.out hO7 (by have := LT.out.2; simp; omega)).cell
    refine ⟨.int .i64 b1, by simp [results, Tryz.results43, go_sem, be7], rfl, ?_, hR7, fun h => absurd h E0.out⟩
    exact (O4.out.trans2 OS.out (fun y hy => by have := NN.out; simp at hy; exact .inr (by omega))).trans (hO7.mono (by intro y _ hy; simp at hy ⊢; exact .inr hy))
end Go.Proofs.YtjjjfmnhdnajkaaGreatDoor

end
section
set_option maxRecDepth 20000
namespace Go.Proofs.YtjjjfmnhdnajkaaGreatDoor
open Go.RowKit
set_option linter.unusedVariables false
set_option linter.unusedSimpArgs false

/-- What Read leaves. -/
def HReadPost (w : World) (b : Nat) (s : ByteArray) (r : Int × HV × Nat) (e : Ending) (w' : World) : Prop :=
  ∃ mv kv, e = .returned (.tuple #[hV r.2.1 mv kv, .int .i64 r.1]) ∧ Rd w' b s r.2.2 ∧ Only [b] w w' ∧ HoldsM w' mv r.2.1.mods ∧ HoldsM w' kv r.2.1.marks ∧ FreshM w mv r.2.1.mods ∧ FreshM w kv r.2.1.marks
theorem h0V : hV h0 (.slice none 0 0) (.slice none 0 0) = .agg #[.int .i64 0, .bool false, .bool false, .int .i64 0, .int .i64 0, .int .i64 0, .int .i64 0, .bool false, .int .i64 0, .bool false, .slice none 0 0, .bool false, .bool false, .bool false, .slice none 0 0, .int .i64 0, .int .i64 0, .int .i64 0, .int .i64 0, .int .i64 0] := rfl
theorem hRead_err {w w' : World} {b : Nat} {s : ByteArray} {e1 : Int} {pos : Nat} {e : Ending} (he : e = .returned (.tuple #[hV h0 (.slice none 0 0) (.slice none 0 0), .int .i64 e1])) (hR : Rd w' b s pos) (hO : Only [b] w w') : HReadPost w b s (e1, h0, pos) e w' :=
  ⟨_, _, he, hR, hO, holdsM_none _, holdsM_none _, freshM_nil _, freshM_nil _⟩
set_option maxRecDepth 100000 in
set_option maxHeartbeats 4000000 in
theorem hread_any {ref : Int} {idr : Bool} {w : World} {b lb : Nat} {s : ByteArray} {pos : Nat} {Ls : List Nat} {f : Int → Option SV} {g : Int → Option PV} {n : Nat} (hVr : Vars w) (r0 : 0 ≤ ref)
    (hR : Rd w b s pos) (hS : StL w lb Ls f g n) (hL2 : b ∉ Ls) (hf : AllS f) (hg : AllP g) (hz : s.size ≤ 100000000) :
    Calls Tryz.prog 11 #[.pointer (some ⟨b, 0, none⟩), .int .u8 ref, .bool idr, .pointer (some ⟨lb, 0, none⟩)] w (HReadPost w b s (readH s pos ref idr f g)) := by
  have HR := hid hR
  have HS := hid hS
  have VV := hid hVr
  have IU := hid (fun w => isunit_any ref idr r0 w)
  have RH : readH s pos ref idr f g = if ¬ (ref ≤ 3 ∧ (0 < ref ∨ idr = false)) then (2, h0, pos) else if (readT s (readB s pos ref idr f g)).1 ≠ 0 then ((readT s (readB s pos ref idr f g)).1, h0, pos) else readT s (readB s pos ref idr f g) := rfl
  have hu : (ref ≤ 3 ∧ (0 < ref ∨ idr = false)) ↔ (decide (ref ≤ 3) && (decide (0 < ref) || !idr)) = true := by simp
  obtain ⟨u, hu1⟩ : ∃ u, u = (decide (ref ≤ 3) && (decide (0 < ref) || !idr)) := ⟨_, rfl⟩
  rw [← hu1] at IU hu
  have HT := hid (fun w2 hb (o : Only [] w w2) (hl : w.heap.size ≤ hb) (hB : Blk w2 hb 73 (hdC h0 (.slice none 0 0) (.slice none 0 0) ⟨ref, idr, p0, s0⟩ .nilFunc .nilFunc)) =>
    headread_any (hVr.only0 o) hB (hR.only o (by simp)) (hS.only o (by simp)) (by have := hR.lt; omega) (fun h => by have := hS.lt hb h; omega) hL2 (fun m => by have := hVr.lt m; omega) hf hg hz)
  obtain ⟨rt, hrt⟩ : ∃ rt, rt = readT s (readB s pos ref idr f g) := ⟨_, rfl⟩
  rw [← hrt] at HT RH
  rw [RH]
  have h1 := HR.out.lt
  have LB := hid h1
  clear RH hrt h1 hVr hR hS hf hg hz hu1
  obtain ⟨w1, hw1⟩ : ∃ w1, w1 = w.alloc (.cells (hC h0 (.slice none 0 0) (.slice none 0 0)).toArray 34) := ⟨_, rfl⟩
  have o1 : Only [] w w1 := hw1 ▸ (Only.refl [] w).alloc _
  have b1 : Blk w1 w.heap.size 34 (hC h0 (.slice none 0 0) (.slice none 0 0)).toArray := hw1 ▸ Blk.new w _ _
  have O1 := hid o1
  have B1 := hid b1
  obtain ⟨R, hR⟩ : ∃ R, R = w.heap.size := ⟨_, rfl⟩
  rw [← hR] at B1
  have RN := hid hR
  have hw2 := hw1
  simp only [hC, h0] at hw2
  clear o1 b1 hw1
  cases u
  · rw [if_pos (fun k => by have := hu.1 k; cases this)]
    clear hu HT
    go_enter Tryz.func11, Tryz.ntmps11
    go_upto_region 1 with (fail)
    rw [← hw2, ← hR]
    clear hw2 hR
    go_wp2_with fail
    refine (IU.out _).mono ?_
    rintro e w3 ⟨rfl, hw3⟩
    rw [← hw3]
    clear hw3
    go_wp2_with (refine store_blk rfl 34 _ _ rfl R 0 _ _ (hC h0 (.slice none 0 0) (.slice none 0 0)) rfl rfl (info_hdr' _ _ _) B1.out (by decide) (one_hC _ rfl rfl) ?_; intro w2 hB2 hO2)
    rw [setsA_h] at hB2
    have O2 : Only [b] w w2 := (O1.out.mono (by simp)).trans2 hO2 (fun y hy => by have := RN.out; simp at hy; exact .inr (by omega))
    exact bodyPost_ret (res_ct rfl rfl rfl (lv_hdr hB2)) rfl (hRead_err rfl ((HR.out.only O1.out (by simp)).only hO2 (by have := RN.out; have := LB.out; simp; omega)) O2)
  · rw [if_neg (fun k => k (hu.2 rfl))]
    clear hu
    obtain ⟨r1, r2, r3⟩ := rt
    dsimp only
    by_cases hz : r1 = 0
    · subst hz
      rw [if_neg (by simp)]
      go_enter Tryz.func11, Tryz.ntmps11
      go_upto_region 1 with (fail)
      rw [← hw2, ← hR]
      clear hw2 hR
      go_wp2_with fail
      refine (IU.out _).mono ?_
      rintro e w3 ⟨rfl, hw3⟩
      rw [← hw3]
      clear hw3
      go_upto_region 6 with (fail)
      generalize hw5 : w1.alloc _ = w5
      have oA : Only [] w1 w5 := hw5 ▸ (Only.refl [] w1).alloc _
      have bH : Blk w5 w1.heap.size 73 (hdC h0 (.slice none 0 0) (.slice none 0 0) ⟨ref, idr, p0, s0⟩ .nilFunc .nilFunc) := hw5 ▸ Blk.new w1 _ _
      have O5 := hid (O1.out.trans oA)
      have R5 := hid (B1.out.only oA (by simp))
      have H5 := hid bH
      have L5 := hid R5.out.lt
      obtain ⟨K, hK⟩ : ∃ K, K = w1.heap.size := ⟨_, rfl⟩
      rw [← hK] at H5 ⊢
      have KN := hid (show R < K by rw [hK]; exact B1.out.lt)
      have KW := hid (show w.heap.size ≤ K by rw [hK]; exact O1.out.size)
      have CL := hid (HT.out w5 K O5.out KW.out H5.out)
      clear hw5 oA bH hK HT
      go_wp2_with fail
      refine CL.out.mono ?_
      rintro e w6 ⟨rfl, hO6, hR6, hK6⟩
      obtain ⟨mv, kv, un, d1, d2, g1, g2, g3, g4, g5⟩ := hK6 rfl
      have H6 := hid g1
      have M6 := hid (And.intro g2 (And.intro g3 (And.intro g4 g5)))
      have B6 := hid (R5.out.only hO6 (by have := KN.out; have := LB.out; have := RN.out; simp; omega))
      have P6 := hid hR6
      have O6 := hid hO6
      obtain ⟨ma, mc, hmv, _⟩ := id g2
      obtain ⟨ka, kc, hkv, _⟩ := id g3
      subst hmv hkv
      clear hO6 hR6 hK6 g1 g2 g3 g4 g5 R5 H5 CL
      go_wp2_with (first
        | (refine load_part rfl 34 _ rfl K _ (hC r2 (.slice ma r2.mods.length mc) (.slice ka r2.marks.length kc)) _ rfl H6.out (hdC_hC _ _ _ _ _ _) (hl_hdr _ _ _ _) ?_)
        | (refine store_blk rfl 34 _ _ rfl R 0 _ _ (hC r2 (.slice ma r2.mods.length mc) (.slice ka r2.marks.length kc)) rfl rfl (info_hdr' _ _ _) B6.out (by simp [hC]) (one_hC _ rfl rfl) ?_; intro w7 hB7 hO7))
      rw [setsA_h] at hB7
      have ne : R ≠ b := by have := LB.out; have := RN.out; omega
      refine bodyPost_ret (res_ct rfl rfl rfl (lv_hdr hB7)) rfl ⟨_, _, rfl, P6.out.only hO7 (by simpa using ne.symm), ?_, ?_, ?_, fun ad n c e hl => Nat.le_trans O5.out.size (M6.out.2.2.1 ad n c e hl), fun ad n c e hl => Nat.le_trans O5.out.size (M6.out.2.2.2 ad n c e hl)⟩
      · refine (((O5.out.mono (T := [b]) (by simp)).trans2 O6.out (fun y hy => ?_))).trans2 hO7 (fun y hy => ?_)
        · have := KW.out; simp at hy ⊢; omega
        · have := RN.out; simp at hy; exact .inr (by omega)
      · exact HoldsM.only2 M6.out.1 hO7 (fun ad n c e hl => by have := M6.out.2.2.1 ad n c e hl; have := L5.out; simp; omega)
      · exact HoldsM.only2 M6.out.2.1 hO7 (fun ad n c e hl => by have := M6.out.2.2.2 ad n c e hl; have := L5.out; simp; omega)
    · have E0 := hid hz
      rw [if_pos hz]
      clear hz
      go_enter Tryz.func11, Tryz.ntmps11
      go_upto_region 1 with (fail)
      rw [← hw2, ← hR]
      clear hw2 hR
      go_wp2_with fail
      refine (IU.out _).mono ?_
      rintro e w3 ⟨rfl, hw3⟩
      rw [← hw3]
      clear hw3
      go_upto_region 6 with (fail)
      generalize hw5 : w1.alloc _ = w5
      have oA : Only [] w1 w5 := hw5 ▸ (Only.refl [] w1).alloc _
      have bH : Blk w5 w1.heap.size 73 (hdC h0 (.slice none 0 0) (.slice none 0 0) ⟨ref, idr, p0, s0⟩ .nilFunc .nilFunc) := hw5 ▸ Blk.new w1 _ _
      have O5 := hid (O1.out.trans oA)
      have R5 := hid (B1.out.only oA (by simp))
      have H5 := hid bH
      have L5 := hid R5.out.lt
      obtain ⟨K, hK⟩ : ∃ K, K = w1.heap.size := ⟨_, rfl⟩
      rw [← hK] at H5 ⊢
      have KN := hid (show R < K by rw [hK]; exact B1.out.lt)
      have KW := hid (show w.heap.size ≤ K by rw [hK]; exact O1.out.size)
      have CL := hid (HT.out w5 K O5.out KW.out H5.out)
      clear hw5 oA bH hK HT
      go_wp2_with fail
      refine CL.out.mono ?_
      rintro e w6 ⟨rfl, hO6, hR6, hK6⟩
      have B6 := hid (R5.out.only hO6 (by have := KN.out; have := LB.out; have := RN.out; simp; omega))
      have P6 := hid hR6
      have O6 := hid hO6
      have hne : (r1 != 0) = true := bne_iff_ne.2 E0.out
      clear hO6 hR6 hK6 R5 H5 CL
      go_wp2_with (refine store_blk rfl 34 _ _ rfl R 0 _ _ (hC h0 (.slice none 0 0) (.slice none 0 0)) rfl rfl (info_hdr' _ _ _) B6.out (by decide) (one_hC _ rfl rfl) ?_; intro w7 hB7 hO7)
      rw [setsA_h] at hB7
      have ne : R ≠ b := by have := LB.out; have := RN.out; omega
      have hp := P6.out
      simp only [HRead, E0.out, if_false] at hp
      refine bodyPost_ret (res_ct rfl rfl rfl (lv_hdr hB7)) rfl (hRead_err rfl (hp.only hO7 (by simpa using ne.symm)) ?_)
      refine (((O5.out.mono (T := [b]) (by simp)).trans2 O6.out (fun y hy => ?_))).trans2 hO7 (fun y hy => ?_)
      · have := KW.out; simp at hy ⊢; omega
      · have := RN.out; simp at hy; exact .inr (by omega)
end Go.Proofs.YtjjjfmnhdnajkaaGreatDoor

end

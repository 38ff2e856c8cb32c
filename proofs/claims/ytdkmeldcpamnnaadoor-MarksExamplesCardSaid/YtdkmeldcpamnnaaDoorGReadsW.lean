/- MarksReads: the walk. -/
import Derived.Test.YtdkmeldcpamnnaaDoorMkT
import Derived.Test.YtdkmeldcpamnnaaDoorRMd
import Derived.Test.YtdkmeldcpamnnaaDoorQuiet
namespace Go.Proofs.YtdkmeldcpamnnaaDoor
open Go.RowKit
set_option linter.unusedVariables false

theorem readI_len (m : Bool) (s : ByteArray) (pos : Nat) (h : pos ≤ 8 * s.size) : (readI m s pos).1.length ≤ 66 := by
  have hj := joinT_readF m s 66 pos
  unfold readI
  generalize hT : readF m s 66 pos = T at *
  obtain ⟨l, e, q⟩ := T
  by_cases he : e = 0
  · subst he
    exact (readF_back m s 66 l pos q h hT).2.1
  · unfold joinT at hj
    dsimp only at hj
    rw [if_pos he] at hj
    cases hj
    simp
set_option maxRecDepth 100000 in
set_option maxHeartbeats 2000000 in
theorem mreads_any (s : ByteArray) (at_ : Int) (W : World) (hV : Vars W) (hs : s.size ≤ maxLen) (b0 : -9223372036854775808 ≤ at_) (b1 : at_ ≤ 9223372036854775807) :
    Calls Tryd.prog 4 #[.string s, .int .i64 at_] W fun e w' => e = .returned (.bool true) ∧ Only [] W w' := by
  have HV := hid hV
  clear hV
  obtain ⟨n, hn⟩ : ∃ n, n = min s.size 200 := ⟨_, rfl⟩
  have hnI : min (s.size : Int) 200 = (n : Int) := by omega
  have hn1 : (n : Int) ≤ (s.size : Int) := by omega
  have hn2 : (n : Int) ≤ 200 := by omega
  have hb : (s.size : Int) ≤ 9223372036854775807 := by unfold maxLen at hs; omega
  obtain ⟨t, ht⟩ : ∃ t, t = s.extract 0 n := ⟨_, rfl⟩
  have ts : t.size = n := by rw [ht, ByteArray.size_extract]; omega
  clear hn hs
  go_enter Tryd.func4, Tryd.ntmps4
  go_upto_region 2 with fail
  rw [← ht]
  have z0 : (0 : Int) ≤ (t.size : Int) := by omega
  have z1 : (t.size : Int) ≤ 200 := by omega
  have tz : t.size ≤ 200 := by omega
  have q0 : -(8 * (t.size : Int)) ≤ at_.tmod (8 * (t.size : Int) + 1) := by have := Int.lt_tmod_of_pos at_ (show (0 : Int) < 8 * (t.size : Int) + 1 by omega); omega
  have q1 : at_.tmod (8 * (t.size : Int) + 1) ≤ 8 * (t.size : Int) := by have := Int.tmod_lt_of_pos at_ (show (0 : Int) < 8 * (t.size : Int) + 1 by omega); omega
  have nz : ¬ 8 * (t.size : Int) + 1 = 0 := by omega
  obtain ⟨P, hP⟩ : ∃ P : Nat, (at_.tmod (8 * (t.size : Int) + 1) + 8 * (t.size : Int) + 1) % (8 * (t.size : Int) + 1) = (P : Int) := ⟨((at_.tmod (8 * (t.size : Int) + 1) + 8 * (t.size : Int) + 1) % (8 * (t.size : Int) + 1)).toNat, by have := Int.emod_nonneg (at_.tmod (8 * (t.size : Int) + 1) + 8 * (t.size : Int) + 1) (show 8 * (t.size : Int) + 1 ≠ 0 by omega); omega⟩
  have hP8 : P ≤ 8 * t.size := by
    have := Int.emod_lt_of_pos (at_.tmod (8 * (t.size : Int) + 1) + 8 * (t.size : Int) + 1) (show (0 : Int) < 8 * (t.size : Int) + 1 by omega)
    rw [hP] at this
    omega
  generalize hq : at_.tmod (8 * (t.size : Int) + 1) = q at *
  clear ht ts hnI hn1 hn2 hb
  have AW := hid (awake_any)
  go_wp2_with fail
  rw [hP]
  have P0 : (0 : Int) ≤ (P : Int) := by omega
  have P1 : (P : Int) ≤ 1600 := by omega
  have P8 := hid hP8
  have TZ := hid tz
  clear hP hP8 tz nz
  go_loopg [5] 2 (fun g t5 wr => ∃ i : Nat, i + g = 2 ∧ t5 = .int .i64 i ∧ Only [] W wr)
  case atStart => exact ⟨0, by omega, rfl, Only.refl _ _⟩
  case round =>
    obtain ⟨i, hi, rfl, hO⟩ := hrel
    have O := hid hO
    clear hO
    have i0 : (0 : Int) ≤ (i : Int) := by omega
    have i2 : (i : Int) ≤ 2 := by omega
    by_cases hg : gk = 0
    · obtain rfl : i = 2 := by omega
      clear hi hg
      go_wp2_with fail
      refine (AW.out _ (HV.out.only0 O.out)).mono ?_
      rintro e w3 ⟨rfl, hO3⟩
      go_wp2_with fail
      go_ret
      exact ⟨rfl, O.out.trans hO3⟩
    · have g1 : (i : Int) < 2 := by omega
      obtain ⟨g, rfl⟩ : ∃ g, gk = g + 1 := ⟨gk - 1, by omega⟩
      have IG := hid (show i + 1 + g = 2 by omega)
      obtain ⟨m, hm⟩ : ∃ m, ((i : Int) == 1) = m := ⟨_, rfl⟩
      have RL := hid (readI_len m t P P8.out)
      have RA := hid (fun b w (hV : Vars w) h => lread_any m b t P w hV h (by have := TZ.out; omega))
      have RB := hid (fun b w h => rread9_any m b t P w h)
      have AT := hid (fun w => at9_any t P w P8.out (by have := TZ.out; omega))
      clear hi hg
      go_wp2_with fail
      refine (AT.out _).mono ?_
      rintro e w2 ⟨r, rfl, hR2, hr2, hO2⟩
      have R2 := hid hR2
      have O2 := hid (O.out.trans hO2)
      have hrW := hid (show W.heap.size ≤ r by have := O.out.size; omega)
      have hrl := hR2.lt
      clear hR2 hO2 hr2 O
      go_upto_region 7 with fail
      generalize hw3 : w2.alloc _ = w3
      have OA := (show Only [] w2 w3 from hw3 ▸ (Only.refl [] w2).alloc _)
      obtain ⟨x, hx⟩ : ∃ x, x = w2.heap.size := ⟨_, rfl⟩
      have X3 := hid (show Rd w3 x t P from by rw [← hw3, hx]; exact ⟨by simp, by simp, by simp, P8.out, by have := TZ.out; omega⟩)
      have R3 := hid (R2.out.only OA (by simp))
      have O3 := hid (O2.out.trans OA)
      have hxW := hid (show W.heap.size ≤ x ∧ r ≠ x by rw [hx]; exact ⟨O2.out.size, by omega⟩)
      rw [← hx]
      clear hw3 hx OA R2 O2 hrl AT
      go_wp2_with fail
      refine (RA.out r _ (HV.out.only0 O3.out) R3.out).mono ?_
      rintro e w4 ⟨sa, rfl, hH4, hR4, hO4, hF4⟩
      have H4 := hid hH4
      have R4 := hid hR4
      have X4 := hid (X3.out.only hO4 (by simp; exact fun h => hxW.out.2 h.symm))
      have O4 := hid (O3.out.trans2 hO4 (fun y hy => .inr (by rw [List.mem_singleton.1 hy]; exact hrW.out)))
      have F4 := hid hF4
      have L4 := hid (show x < w3.heap.size ∧ r < w3.heap.size from ⟨X3.out.lt, R3.out.lt⟩)
      clear hH4 hR4 hO4 hF4 R3 X3 O3 RA
      go_wp2_with fail
      refine (RB.out x _ X4.out).mono ?_
      rintro e w5 ⟨sb, rfl, hH5, hR5, hO5, _⟩
      have X5 := hid hR5
      have B5 := hid hH5
      have A5 := hid (H4.out.fresh F4.out hO5 (fun y hy => by rw [List.mem_singleton.1 hy]; exact L4.out.1))
      have R5 := hid (R4.out.only hO5 (by simp; exact hxW.out.2))
      have O5 := hid (O4.out.trans2 hO5 (fun y hy => .inr (by rw [List.mem_singleton.1 hy]; exact hxW.out.1)))
      have RLL := RL.out
      clear hH5 hR5 hO5 H4 R4 X4 O4 F4 RB RL
      generalize readI m t P = rr at *
      obtain ⟨ll, re, rq⟩ := rr
      dsimp only at *
      have RLL := hid RLL
      go_upto_region 11 with fail
      go_cut [77] (fun s77 wx => s77 = .bool false ∧ Only [] W wx)
      case first =>
        have xp : ∀ y : OnlyOf w5, y.at.cell? ⟨x, 1, none⟩ = some (.int .i64 (rq : Nat)) := fun y => y.only.cell X5.out.hp (by simp)
        refine wp_region_only (by kernel_rfl) (by kernel_rfl) ?_
        repeat (go_big_quiet_step (first
          | (go_at_call 20; exact Calls.only_of (eqm_any sa sb ll ll _ (A5.out.only0 (OnlyOf.only _)) (B5.out.only0 (OnlyOf.only _)) (by have := RLL.out; omega) (by have := RLL.out; omega)))
          | (go_at_call 25; exact Calls.only_same (pos_any r t rq _ (R5.out.only (OnlyOf.only _) (by simp))))))
        refine wpQuiet_nil ?_
        rintro _ ⟨y8, rfl⟩
        have O8 := hid (O5.out.trans y8.only)
        generalize y8.at = w8 at O8 ⊢
        go_wp2_with fail
        go_meet
        exact ⟨rfl, O8.out⟩
      case rest =>
        obtain ⟨rfl, hO6⟩ := hcut
        have O6 := hid hO6
        clear hO6
        go_wp2_with fail
        go_roundg g
        case measure => omega
        case rel => exact ⟨i + 1, IG.out, by go_num, O6.out⟩
end Go.Proofs.YtdkmeldcpamnnaaDoor

/- BitsErrors: a call that returns an error changes nothing; Pos and Left are all bits, always. -/
import Derived.Test.YtbbmmpjhpleceaaSt
import Derived.Test.YtbbmmpjhpleceaaQuiet
import Derived.Test.YtbbmmpjhpleceaaCalls
import Derived.StillTailTactics
import Derived.Deep.QuietTactic
import Derived.BigQuiet
import Derived.Deep.DeepCutAuto
import Derived.Deep.RegionWith
namespace Go.Proofs.Ytbbmmpjhpleceaa
open Go.RowKit
set_option linter.unusedVariables false

theorem pos_quiet (b : Nat) (s : ByteArray) (pos : Nat) (w : World) (h : Rd w b s pos) :
    Calls Try.prog 20 #[.pointer (some ⟨b, 0, none⟩)] w fun e w' => e = .returned (.int .i64 pos) ∧ ∃ n, w' = w.drewN n :=
  (pos_any b s pos w h).mono fun e w' ⟨h1, h2⟩ => ⟨h1, 0, h2 ▸ rfl⟩
theorem chars_len (l : List Bool) : (chars l).size = l.length := size_chars l

set_option maxRecDepth 100000 in
set_option maxHeartbeats 2000000 in
theorem errors_walk (s : ByteArray) (a : Option Addr) (len cap : Nat) (f : Nat → Int × Int × Int) (w : World) (hs : s.size ≤ maxLen) (hlc : len ≤ cap) (hcm : cap ≤ maxLen) (hc : CallsAt w a len f) :
    Calls Try.prog 8 #[.string s, .slice a len cap] w fun e w' => e = .returned (.bool true) ∧ Only [] w w' := by
  unfold maxLen at hs hcm
  by_cases h0 : 200 < s.size ∨ 40 < len
  · have h0' : (200 : Int) < (s.size : Int) ∨ ((s.size : Int) ≤ 200 ∧ (40 : Int) < (len : Int)) := by omega
    clear h0 hc
    rcases h0' with h0' | ⟨h1, h2⟩
    all_goals
      go_enter Try.func8, Try.ntmps8
      go_wp2_with (go_at_call 11; refine (known_any _).mono ?_; rintro e w1 ⟨rfl, ho1⟩)
      go_ret
      exact ⟨rfl, ho1⟩
  · have h1 : (s.size : Int) ≤ 200 := by omega
    have h2 : (len : Int) ≤ 40 := by omega
    have h2' : len ≤ 40 := by omega
    have C0 := hid hc
    clear h0 hs hc
    go_enter Try.func8, Try.ntmps8
    go_wp2_with fail
    refine (read_any s w (by omega)).mono ?_
    rintro e w1 ⟨rfl, hr1, ho1⟩
    go_wp2_with fail
    refine (write_any w1).mono ?_
    rintro e w2 ⟨rfl, hw2, ho2⟩
    have hlt := hr1.lt
    obtain ⟨r, hr⟩ : ∃ r, r = w.heap.size := ⟨_, rfl⟩
    obtain ⟨c, hcc⟩ : ∃ c, c = w1.heap.size := ⟨_, rfl⟩
    rw [← hr] at hr1 hlt ⊢
    rw [← hcc] at hw2 hlt ⊢
    have S0 := hid (show St w r c s w2 0 (.slice none 0 0) [] from ⟨hr1.only ho2 (by simp), hw2, by simp [ownOf, Value.ownBlock], by simp [ownOf, Value.ownBlock], by omega, by omega, by omega, ho1.trans ho2⟩)
    clear hr1 hw2 ho1 ho2 hr hcc
    go_wp2_with fail
    go_loopg [7] len (fun g i wr => ∃ (j pos : Nat) (sv : Value) (l : List Bool), j + g = len ∧ i = .int .i64 j ∧ l.length ≤ 64 * j ∧ St w r c s wr pos sv l)
    case atStart => exact ⟨0, 0, _, [], by omega, rfl, by simp, S0.out⟩
    case round =>
      obtain ⟨j, pos, sv, l, hj, rfl, hll, hS⟩ := hrel
      have S := hid hS
      have J := hid hj
      have hps := hS.rd.le
      clear hS
      by_cases hg : gk = 0
      · have i1 : ¬ (j : Int) < (len : Int) := by omega
        clear hj
        go_wp2_with fail
        refine (known_any wr).mono ?_
        rintro e w3 ⟨rfl, ho3⟩
        go_wp2_with fail
        go_ret
        exact ⟨rfl, S.out.only.trans ho3⟩
      · have i1 : (j : Int) < (len : Int) := by omega
        have hjl : j < len := by omega
        clear hj
        rcases C0.out with hz | ⟨b, o, rfl, hall⟩
        · omega
        obtain ⟨_, ⟨b1, b2⟩, b3, b4⟩ := (hall j hjl).2
        have X := hid (fun w' (k : Only [] w w') => (C0.out.at k hjl).2)
        clear hall
        generalize (f j).1 = x at *
        generalize (f j).2.1 = n at *
        generalize (f j).2.2 = vv at *
        obtain ⟨v, rfl⟩ := Int.eq_ofNat_of_zero_le b3
        clear C0
        obtain ⟨x1, x2⟩ := X.out wr S.out.only
        go_wp2_with fail
        refine (pos_any r s pos wr S.out.rd).mono ?_
        rintro e w3 ⟨rfl, rfl⟩
        go_wp2_with fail
        refine (len_any c sv l wr S.out.wr).mono ?_
        rintro e w3 ⟨rfl, n3, rfl⟩
        have S3 := hid (S.out.drewN n3)
        go_wp2_with fail
        refine (bits_any c sv l _ S3.out.wr).mono ?_
        rintro e w4 ⟨rfl, hO4⟩
        have S4 := hid (S3.out.keep hO4)
        clear hO4
        obtain ⟨y1, y2⟩ := X.out w4 S4.out.only
        by_cases hn : n < 0 ∨ 64 < n
        · rcases hn with hn1 | hn1
          · have hn : n < 0 ∨ 64 < n := .inl hn1
            have HN := hid hn
            have d1 : decide (0 ≤ n) = false := by simp; omega
            clear hn
            go_wp2_with fail
            go_quiet ((go_at_call 22; exact Calls.quiet_of (left_any r s pos _ (S4.out.rd.drewN _))))
            go_wp2_with fail
            refine (u_range r n _ HN.out).mono ?_
            rintro e w5 ⟨rfl, rfl⟩
            have S5 := hid (S4.out.drewN nq)
            generalize w4.drewN nq = w5 at S5 ⊢
            obtain ⟨z1, z2⟩ := X.out _ S5.out.only
            go_wp2_with fail
            go_still_tail 11, (by kernel_rfl)
            go_wp2_with fail
            refine (put_range c n v _ HN.out).mono ?_
            rintro e w6 ⟨rfl, rfl⟩
            have S6 := hid (show St w r c s w5.drew pos sv l from S5.out.drewN 1)
            generalize w5.drew = w6 at S6 ⊢
            obtain ⟨u1, u2⟩ := X.out _ S6.out.only
            go_wp2_with fail
            have T1 := fun n => (S6.out.drewN n).rd
            have T1' := hid T1
            clear T1
            go_quiet ((go_at_call 20; exact Calls.quiet_of (pos_quiet r s _ _ (T1'.out _))))
            go_wp2_with fail
            have S7 := hid (S6.out.drewN nq)
            generalize w6.drewN nq = w7 at S7 ⊢
            obtain ⟨t1, t2⟩ := X.out _ S7.out.only
            refine wp_region_only (by kernel_rfl) (by kernel_rfl) ?_
            repeat (go_big_quiet_step ((go_at_call 30; exact Calls.only_of (bits_any c sv l _ (S7.out.keep (OnlyOf.only _)).wr))))
            refine wpQuiet_nil ?_
            rintro _ ⟨y8, rfl⟩
            have S8 := hid (S7.out.keep y8.only)
            generalize y8.at = w8 at S8 ⊢
            go_wp2_with fail
            refine (pos_any r s _ _ S8.out.rd).mono ?_
            rintro e w9 ⟨rfl, rfl⟩
            go_wp2_with fail
            refine (left_any r s _ _ S8.out.rd).mono ?_
            rintro e w9 ⟨rfl, n9, rfl⟩
            have hpz := S8.out.rd.le
            go_wp2_with fail
            go_roundg (gk - 1)
            case measure => omega
            case rel => exact ⟨j + 1, _, _, _, by have := J.out; omega, by go_num, by first | omega | (rw [List.length_append, length_bitsOf]; omega), S8.out.drewN _⟩
          · have hn : n < 0 ∨ 64 < n := .inr hn1
            have HN := hid hn
            have d1 : decide (n ≤ 64) = false := by simp; omega
            have d0 : 0 ≤ n := by omega
            clear hn
            go_wp2_with fail
            go_quiet ((go_at_call 22; exact Calls.quiet_of (left_any r s pos _ (S4.out.rd.drewN _))))
            go_wp2_with fail
            refine (u_range r n _ HN.out).mono ?_
            rintro e w5 ⟨rfl, rfl⟩
            have S5 := hid (S4.out.drewN nq)
            generalize w4.drewN nq = w5 at S5 ⊢
            obtain ⟨z1, z2⟩ := X.out _ S5.out.only
            go_wp2_with fail
            go_still_tail 11, (by kernel_rfl)
            go_wp2_with fail
            refine (put_range c n v _ HN.out).mono ?_
            rintro e w6 ⟨rfl, rfl⟩
            have S6 := hid (show St w r c s w5.drew pos sv l from S5.out.drewN 1)
            generalize w5.drew = w6 at S6 ⊢
            obtain ⟨u1, u2⟩ := X.out _ S6.out.only
            go_wp2_with fail
            have T1 := fun n => (S6.out.drewN n).rd
            have T1' := hid T1
            clear T1
            go_quiet ((go_at_call 20; exact Calls.quiet_of (pos_quiet r s _ _ (T1'.out _))))
            go_wp2_with fail
            have S7 := hid (S6.out.drewN nq)
            generalize w6.drewN nq = w7 at S7 ⊢
            obtain ⟨t1, t2⟩ := X.out _ S7.out.only
            refine wp_region_only (by kernel_rfl) (by kernel_rfl) ?_
            repeat (go_big_quiet_step ((go_at_call 30; exact Calls.only_of (bits_any c sv l _ (S7.out.keep (OnlyOf.only _)).wr))))
            refine wpQuiet_nil ?_
            rintro _ ⟨y8, rfl⟩
            have S8 := hid (S7.out.keep y8.only)
            generalize y8.at = w8 at S8 ⊢
            go_wp2_with fail
            refine (pos_any r s _ _ S8.out.rd).mono ?_
            rintro e w9 ⟨rfl, rfl⟩
            go_wp2_with fail
            refine (left_any r s _ _ S8.out.rd).mono ?_
            rintro e w9 ⟨rfl, n9, rfl⟩
            have hpz := S8.out.rd.le
            go_wp2_with fail
            go_roundg (gk - 1)
            case measure => omega
            case rel => exact ⟨j + 1, _, _, _, by have := J.out; omega, by go_num, by first | omega | (rw [List.length_append, length_bitsOf]; omega), S8.out.drewN _⟩
        · obtain ⟨k, rfl⟩ := Int.eq_ofNat_of_zero_le (show 0 ≤ n by omega)
          have hk64 : k ≤ 64 := by omega
          have hk64' : (k : Int) ≤ 64 := by omega
          clear hn
          by_cases hn : 8 * (s.size : Int) - (pos : Int) < (k : Int)
          · by_cases hv : 2 ^ k ≤ v
            · have HV := hid hv
              clear hv
              go_wp2_with fail
              go_quiet ((go_at_call 22; exact Calls.quiet_of (left_any r s pos _ (S4.out.rd.drewN _))))
              go_wp2_with fail
              refine (u_short r s pos (k : Int) _ (S4.out.rd.drewN nq) (by omega) (by omega) hn).mono ?_
              rintro e w5 ⟨rfl, n5, rfl⟩
              have S5 := hid ((S4.out.drewN nq).drewN n5)
              generalize (w4.drewN nq).drewN n5 = w5 at S5 ⊢
              obtain ⟨z1, z2⟩ := X.out _ S5.out.only
              go_wp2_with fail
              go_still_tail 11, (by kernel_rfl)
              go_wp2_with fail
              refine (put_arg c k v _ hk64 HV.out).mono ?_
              rintro e w6 ⟨rfl, rfl⟩
              have S6 := hid (show St w r c s w5.drew pos sv l from S5.out.drewN 1)
              generalize w5.drew = w6 at S6 ⊢
              obtain ⟨u1, u2⟩ := X.out _ S6.out.only
              go_wp2_with fail
              have T1 := fun n => (S6.out.drewN n).rd
              have T1' := hid T1
              clear T1
              go_quiet ((go_at_call 20; exact Calls.quiet_of (pos_quiet r s _ _ (T1'.out _))))
              go_wp2_with fail
              have S7 := hid (S6.out.drewN nq)
              generalize w6.drewN nq = w7 at S7 ⊢
              obtain ⟨t1, t2⟩ := X.out _ S7.out.only
              refine wp_region_only (by kernel_rfl) (by kernel_rfl) ?_
              repeat (go_big_quiet_step ((go_at_call 30; exact Calls.only_of (bits_any c sv l _ (S7.out.keep (OnlyOf.only _)).wr))))
              refine wpQuiet_nil ?_
              rintro _ ⟨y8, rfl⟩
              have S8 := hid (S7.out.keep y8.only)
              generalize y8.at = w8 at S8 ⊢
              go_wp2_with fail
              refine (pos_any r s _ _ S8.out.rd).mono ?_
              rintro e w9 ⟨rfl, rfl⟩
              go_wp2_with fail
              refine (left_any r s _ _ S8.out.rd).mono ?_
              rintro e w9 ⟨rfl, n9, rfl⟩
              have hpz := S8.out.rd.le
              go_wp2_with fail
              go_roundg (gk - 1)
              case measure => omega
              case rel => exact ⟨j + 1, _, _, _, by have := J.out; omega, by go_num, by first | omega | (rw [List.length_append, length_bitsOf]; omega), S8.out.drewN _⟩
            · have HV := hid (show v < 2 ^ k from by omega)
              clear hv
              go_wp2_with fail
              go_quiet ((go_at_call 22; exact Calls.quiet_of (left_any r s pos _ (S4.out.rd.drewN _))))
              go_wp2_with fail
              refine (u_short r s pos (k : Int) _ (S4.out.rd.drewN nq) (by omega) (by omega) hn).mono ?_
              rintro e w5 ⟨rfl, n5, rfl⟩
              have S5 := hid ((S4.out.drewN nq).drewN n5)
              generalize (w4.drewN nq).drewN n5 = w5 at S5 ⊢
              obtain ⟨z1, z2⟩ := X.out _ S5.out.only
              go_wp2_with fail
              go_still_tail 11, (by kernel_rfl)
              go_wp2_with fail
              refine (put_yes c sv l k v _ (S5.out.drewN 1).wr hk64 HV.out (by omega)).mono ?_
              rintro e w6 ⟨rfl, sv', hW6, hS6, hO6⟩
              have S6 := hid ((S5.out.drewN 1).put hW6 hS6 hO6)
              clear hW6 hS6 hO6
              obtain ⟨u1, u2⟩ := X.out _ S6.out.only
              go_wp2_with fail
              have T1 := fun n => (S6.out.drewN n).rd
              have T1' := hid T1
              clear T1
              go_quiet ((go_at_call 20; exact Calls.quiet_of (pos_quiet r s _ _ (T1'.out _))))
              go_wp2_with fail
              have S7 := hid (S6.out.drewN nq)
              generalize w6.drewN nq = w7 at S7 ⊢
              obtain ⟨t1, t2⟩ := X.out _ S7.out.only
              go_quiet ((go_at_call 28; exact Calls.quiet_of (len_any c sv' (l ++ bitsOf k v) _ (S7.out.drewN _).wr)))
              have S8 := hid (S7.out.drewN nq)
              go_wp2_with fail
              refine (pos_any r s _ _ S8.out.rd).mono ?_
              rintro e w9 ⟨rfl, rfl⟩
              go_wp2_with fail
              refine (left_any r s _ _ S8.out.rd).mono ?_
              rintro e w9 ⟨rfl, n9, rfl⟩
              have hpz := S8.out.rd.le
              go_wp2_with fail
              go_roundg (gk - 1)
              case measure => omega
              case rel => exact ⟨j + 1, _, _, _, by have := J.out; omega, by go_num, by first | omega | (rw [List.length_append, length_bitsOf]; omega), S7.out.drewN _⟩
          · have hle : (k : Int) ≤ 8 * (s.size : Int) - (pos : Int) := by omega
            have hle' : pos + k ≤ 8 * s.size := by omega
            clear hn
            by_cases hv : 2 ^ k ≤ v
            · have HV := hid hv
              clear hv
              go_wp2_with fail
              go_quiet ((go_at_call 22; exact Calls.quiet_of (left_any r s pos _ (S4.out.rd.drewN _))))
              go_wp2_with fail
              refine (u_yes r s pos k _ (S4.out.rd.drewN nq) hk64 (by omega)).mono ?_
              rintro e w5 ⟨rfl, hR5, hO5⟩
              have S5 := hid ((S4.out.drewN nq).read hR5 hO5)
              clear hR5 hO5
              obtain ⟨z1, z2⟩ := X.out _ S5.out.only
              go_wp2_with fail
              go_still_tail 11, (by kernel_rfl)
              go_wp2_with fail
              refine (put_arg c k v _ hk64 HV.out).mono ?_
              rintro e w6 ⟨rfl, rfl⟩
              have S6 := hid (show St w r c s w5.drew (pos + k) sv l from S5.out.drewN 1)
              generalize w5.drew = w6 at S6 ⊢
              obtain ⟨u1, u2⟩ := X.out _ S6.out.only
              go_wp2_with fail
              have T1 := fun n => (S6.out.drewN n).rd
              have T1' := hid T1
              clear T1
              go_quiet ((go_at_call 20; exact Calls.quiet_of (pos_quiet r s _ _ (T1'.out _))))
              go_wp2_with fail
              have S7 := hid (S6.out.drewN nq)
              generalize w6.drewN nq = w7 at S7 ⊢
              obtain ⟨t1, t2⟩ := X.out _ S7.out.only
              refine wp_region_only (by kernel_rfl) (by kernel_rfl) ?_
              repeat (go_big_quiet_step ((go_at_call 30; exact Calls.only_of (bits_any c sv l _ (S7.out.keep (OnlyOf.only _)).wr))))
              refine wpQuiet_nil ?_
              rintro _ ⟨y8, rfl⟩
              have S8 := hid (S7.out.keep y8.only)
              generalize y8.at = w8 at S8 ⊢
              go_wp2_with fail
              refine (pos_any r s _ _ S8.out.rd).mono ?_
              rintro e w9 ⟨rfl, rfl⟩
              go_wp2_with fail
              refine (left_any r s _ _ S8.out.rd).mono ?_
              rintro e w9 ⟨rfl, n9, rfl⟩
              have hpz := S8.out.rd.le
              go_wp2_with fail
              go_roundg (gk - 1)
              case measure => omega
              case rel => exact ⟨j + 1, _, _, _, by have := J.out; omega, by go_num, by first | omega | (rw [List.length_append, length_bitsOf]; omega), S8.out.drewN _⟩
            · have HV := hid (show v < 2 ^ k from by omega)
              clear hv
              go_wp2_with fail
              go_quiet ((go_at_call 22; exact Calls.quiet_of (left_any r s pos _ (S4.out.rd.drewN _))))
              go_wp2_with fail
              refine (u_yes r s pos k _ (S4.out.rd.drewN nq) hk64 (by omega)).mono ?_
              rintro e w5 ⟨rfl, hR5, hO5⟩
              have S5 := hid ((S4.out.drewN nq).read hR5 hO5)
              clear hR5 hO5
              obtain ⟨z1, z2⟩ := X.out _ S5.out.only
              go_wp2_with fail
              go_still_tail 11, (by kernel_rfl)
              go_wp2_with fail
              refine (put_yes c sv l k v _ (S5.out.drewN 1).wr hk64 HV.out (by omega)).mono ?_
              rintro e w6 ⟨rfl, sv', hW6, hS6, hO6⟩
              have S6 := hid ((S5.out.drewN 1).put hW6 hS6 hO6)
              clear hW6 hS6 hO6
              obtain ⟨u1, u2⟩ := X.out _ S6.out.only
              go_wp2_with fail
              have T1 := fun n => (S6.out.drewN n).rd
              have T1' := hid T1
              clear T1
              go_quiet ((go_at_call 20; exact Calls.quiet_of (pos_quiet r s _ _ (T1'.out _))))
              go_wp2_with fail
              have S7 := hid (S6.out.drewN nq)
              generalize w6.drewN nq = w7 at S7 ⊢
              obtain ⟨t1, t2⟩ := X.out _ S7.out.only
              go_quiet ((go_at_call 28; exact Calls.quiet_of (len_any c sv' (l ++ bitsOf k v) _ (S7.out.drewN _).wr)))
              have S8 := hid (S7.out.drewN nq)
              go_wp2_with fail
              refine (pos_any r s _ _ S8.out.rd).mono ?_
              rintro e w9 ⟨rfl, rfl⟩
              go_wp2_with fail
              refine (left_any r s _ _ S8.out.rd).mono ?_
              rintro e w9 ⟨rfl, n9, rfl⟩
              have hpz := S8.out.rd.le
              go_wp2_with fail
              go_roundg (gk - 1)
              case measure => omega
              case rel => exact ⟨j + 1, _, _, _, by have := J.out; omega, by go_num, by first | omega | (rw [List.length_append, length_bitsOf]; omega), S7.out.drewN _⟩

open Go.ChangeShapes Go.WideShapes Go.ChangeAt
open Go.ChangeMaps (open_string)
theorem bitsErrors_core {H : Type} {enc : TypeId × Value → H} (W : World) (base : Nat) (v0 : Value) (d0 : DataW H) (p0 : List MemPlace) (k0 : Value.okWide Try.prog W .any base 9 v0) (h0 : DataW.Trod enc Try.prog W 0 (fun _ => true) true 9 v0 d0 p0)
    (v1 : Value) (d1 : DataW H) (p1 : List MemPlace) (k1 : Value.okWide Try.prog W .any base 22 v1) (h1 : DataW.Trod enc Try.prog W 0 (fun _ => true) true 22 v1 d1 p1) :
    Calls Try.prog 8 #[v0, v1] W fun e w' => e = .returned (.bool true) ∧ Below W.heap.size W w' := by
  obtain ⟨s, rfl, rfl, rfl, w0⟩ := open_string Try.underlying9 k0 h0
  obtain ⟨a, len, cap, f, rfl, hlc, hcm, hc⟩ := open_calls k1 h1
  exact (errors_walk s a len cap f W w0 hlc hcm hc).mono fun e w' ⟨he, ho⟩ => ⟨he, ho.below (Nat.le_refl _) (by simp)⟩
end Go.Proofs.Ytbbmmpjhpleceaa

/- GolombReads: numbers are read as by the reference, call by call. -/
import Derived.Test.YtgfcooaobfpdiaaKn2
import Derived.Test.YtgfcooaobfpdiaaRt
import Derived.Test.YtgfcooaobfpdiaaCalls4
namespace Go.Proofs.Ytgfcooaobfpdiaa
open Go.RowKit
set_option linter.unusedVariables false

/-- Two readers of one string, in one world. -/
structure TwoR (w0 : World) (r q : Nat) (s : ByteArray) (w : World) (p1 p2 : Nat) : Prop where
  rd : Rd w r s p1
  rq : Rd w q s p2
  ne : r ≠ q
  hr : w0.heap.size ≤ r
  hq : w0.heap.size ≤ q
  only : Only [] w0 w
theorem TwoR.fst {w0 : World} {r q : Nat} {s : ByteArray} {w w' : World} {p1 p2 p : Nat} (h : TwoR w0 r q s w p1 p2) (k : Rd w' r s p) (o : Only [r] w w') : TwoR w0 r q s w' p p2 :=
  ⟨k, h.rq.only o (fun e => h.ne (List.mem_singleton.1 e).symm), h.ne, h.hr, h.hq, h.only.trans2 o (fun x hx => .inr (by rw [List.mem_singleton.1 hx]; exact h.hr))⟩
theorem TwoR.snd {w0 : World} {r q : Nat} {s : ByteArray} {w w' : World} {p1 p2 p : Nat} (h : TwoR w0 r q s w p1 p2) (k : Rd w' q s p) (o : Only [q] w w') : TwoR w0 r q s w' p1 p :=
  ⟨h.rd.only o (fun e => h.ne (List.mem_singleton.1 e)), k, h.ne, h.hr, h.hq, h.only.trans2 o (fun x hx => .inr (by rw [List.mem_singleton.1 hx]; exact h.hq))⟩

set_option maxRecDepth 100000 in
set_option maxHeartbeats 4000000 in
theorem reads_walk (s : ByteArray) (a : Option Addr) (len cap : Nat) (f : Nat → Int × Int × Int × Int) (w : World) (hs : s.size ≤ maxLen) (hlc : len ≤ cap) (hcm : cap ≤ maxLen) (hc : CallsAt w a len f) :
    Calls Try.prog 3 #[.string s, .slice a len cap] w fun e w' => e = .returned (.bool true) ∧ Only [] w w' := by
  unfold maxLen at hs hcm
  by_cases h0 : 200 < s.size ∨ 40 < len
  · have h0' : (200 : Int) < (s.size : Int) ∨ ((s.size : Int) ≤ 200 ∧ (40 : Int) < (len : Int)) := by omega
    clear h0 hc
    rcases h0' with h0' | ⟨h1, h2⟩
    all_goals
      go_enter Try.func3, Try.ntmps3
      go_wp2_with (go_at_call 11; refine (known_any _).mono ?_; rintro e w1 ⟨rfl, ho1⟩)
      go_ret
      exact ⟨rfl, ho1⟩
  · have h1 : (s.size : Int) ≤ 200 := by omega
    have h2 : (len : Int) ≤ 40 := by omega
    have C0 := hid hc
    clear h0 hs hc
    go_enter Try.func3, Try.ntmps3
    go_wp2_with fail
    refine (read_any s w (by omega)).mono ?_
    rintro e w1 ⟨rfl, hr1, ho1⟩
    go_wp2_with fail
    refine (rread_any s w1 (by omega)).mono ?_
    rintro e w2 ⟨rfl, hq2, ho2⟩
    have hrq : w.heap.size < w1.heap.size := hr1.lt
    have T2 := hid (show TwoR w w.heap.size w1.heap.size s w2 0 0 from ⟨hr1.only ho2 (by simp), hq2, by omega, by omega, by omega, ho1.trans ho2⟩)
    generalize w1.heap.size = q at *
    generalize hr : w.heap.size = r at *
    clear ho1 ho2 hr1 hq2 hr hrq
    go_wp2_with fail
    go_loopg [7] len (fun g i wr => ∃ j pos : Nat, j + g = len ∧ i = .int .i64 j ∧ TwoR w r q s wr pos pos)
    case atStart => exact ⟨0, 0, by omega, rfl, T2.out⟩
    case round =>
      obtain ⟨j, pos, hj, rfl, hT⟩ := hrel
      have T := hid hT
      have C := hid (C0.out.only hT.only)
      have J := hid hj
      clear hT
      by_cases hg : gk = 0
      · have i1 : ¬ (j : Int) < (len : Int) := by omega
        clear hj
        go_wp2_with fail
        refine (known_any wr).mono ?_
        rintro e w3 ⟨rfl, ho3⟩
        go_wp2_with fail
        go_ret
        exact ⟨rfl, T.out.only.trans ho3⟩
      · have i1 : (j : Int) < (len : Int) := by omega
        have hjl : j < len := by omega
        clear hj
        rcases C.out with hz | ⟨b, o, rfl, hall⟩
        · omega
        obtain ⟨⟨x0, x1, x2, x3⟩, ⟨b1, b2⟩, ⟨b3, b4⟩, b5, b6⟩ := hall j hjl
        have X := hid (fun w' (k : Only [] w w') => (C0.out.at k hjl).all)
        clear hall x1 x2 x3 b6
        generalize (f j).1 = c at *
        generalize (f j).2.1 = mo at *
        generalize (f j).2.2.1 = kk at *
        obtain ⟨most, rfl⟩ := Int.eq_ofNat_of_zero_le b3
        clear b4 b5
        by_cases c0 : c % 4 = 0
        · have c0' : (c % 4 == 0) = true := by simp [c0]
          have P1 := hid (fun w h => ue_any r s pos w h)
          have P2 := hid (fun w h => rue_any q s pos w h)
          generalize rdUk s pos 0 = t at *
          obtain ⟨x, y, z⟩ := t
          clear c0
          go_wp2_with fail
          refine (P1.out wr T.out.rd).mono ?_
          rintro e w3 ⟨rfl, hR3, hO3⟩
          have T3 := hid (T.out.fst hR3 hO3)
          clear hR3 hO3
          go_wp2_with fail
          refine (P2.out w3 T3.out.rq).mono ?_
          rintro e w4 ⟨rfl, hQ4, hO4⟩
          have T4 := hid (T3.out.snd hQ4 hO4)
          clear hQ4 hO4
          go_wp2_with fail
          refine (pos_any r s z w4 T4.out.rd).mono ?_
          rintro e w5 ⟨rfl, rfl⟩
          go_wp2_with fail
          refine (rpos_any q s z w4 T4.out.rq).mono ?_
          rintro e w5 ⟨rfl, rfl⟩
          go_wp2_with fail
          go_roundg (gk - 1)
          case measure => omega
          case rel => exact ⟨j + 1, z, by have := J.out; omega, by go_num, T4.out⟩
        have c0' : (c % 4 == 0) = false := by rw [beq_eq_false_iff_ne]; exact c0
        by_cases c1 : c % 4 = 1
        · have c1' : (c % 4 == 1) = true := by simp [c1]
          have P1 := hid (fun w h => se_any r s pos w h)
          have P2 := hid (fun w h => rse_any q s pos w h)
          generalize rdUk s pos 0 = t at *
          obtain ⟨x, y, z⟩ := t
          generalize seVal x = sx at *
          clear c0 c1
          go_wp2_with fail
          refine (P1.out wr T.out.rd).mono ?_
          rintro e w3 ⟨rfl, hR3, hO3⟩
          have T3 := hid (T.out.fst hR3 hO3)
          clear hR3 hO3
          go_wp2_with fail
          refine (P2.out w3 T3.out.rq).mono ?_
          rintro e w4 ⟨rfl, hQ4, hO4⟩
          have T4 := hid (T3.out.snd hQ4 hO4)
          clear hQ4 hO4
          go_wp2_with fail
          refine (pos_any r s z w4 T4.out.rd).mono ?_
          rintro e w5 ⟨rfl, rfl⟩
          go_wp2_with fail
          refine (rpos_any q s z w4 T4.out.rq).mono ?_
          rintro e w5 ⟨rfl, rfl⟩
          go_wp2_with fail
          go_roundg (gk - 1)
          case measure => omega
          case rel => exact ⟨j + 1, z, by have := J.out; omega, by go_num, T4.out⟩
        have c1' : (c % 4 == 1) = false := by rw [beq_eq_false_iff_ne]; exact c1
        by_cases c2 : c % 4 = 2
        · have c2' : (c % 4 == 2) = true := by simp [c2]
          have P1 := hid (fun w h => te_any r s pos most w h)
          have P2 := hid (fun w h => rte_any q s pos most w h)
          generalize rdTe s pos most = t at *
          obtain ⟨x, y, z⟩ := t
          obtain ⟨_, m1, _, _⟩ := X.out wr T.out.only
          clear c0 c1 c2
          go_wp2_with fail
          refine (P1.out wr T.out.rd).mono ?_
          rintro e w3 ⟨rfl, hR3, hO3⟩
          have T3 := hid (T.out.fst hR3 hO3)
          obtain ⟨_, m3, _, _⟩ := X.out w3 T3.out.only
          clear hR3 hO3 m1
          go_wp2_with fail
          refine (P2.out w3 T3.out.rq).mono ?_
          rintro e w4 ⟨rfl, hQ4, hO4⟩
          have T4 := hid (T3.out.snd hQ4 hO4)
          clear hQ4 hO4
          go_wp2_with fail
          refine (pos_any r s z w4 T4.out.rd).mono ?_
          rintro e w5 ⟨rfl, rfl⟩
          go_wp2_with fail
          refine (rpos_any q s z w4 T4.out.rq).mono ?_
          rintro e w5 ⟨rfl, rfl⟩
          go_wp2_with fail
          go_roundg (gk - 1)
          case measure => omega
          case rel => exact ⟨j + 1, z, by have := J.out; omega, by go_num, T4.out⟩
        · have c2' : (c % 4 == 2) = false := by rw [beq_eq_false_iff_ne]; exact c2
          have P1 := hid (fun w h => uk_any r s pos kk w h)
          have P2 := hid (fun w h => ruk_any q s pos kk w h)
          generalize rdUkI s pos kk = t at *
          obtain ⟨x, y, z⟩ := t
          obtain ⟨_, _, m1, _⟩ := X.out wr T.out.only
          clear c0 c1 c2
          go_wp2_with fail
          refine (P1.out wr T.out.rd).mono ?_
          rintro e w3 ⟨rfl, hR3, hO3⟩
          have T3 := hid (T.out.fst hR3 hO3)
          obtain ⟨_, _, m3, _⟩ := X.out w3 T3.out.only
          clear hR3 hO3 m1
          go_wp2_with fail
          refine (P2.out w3 T3.out.rq).mono ?_
          rintro e w4 ⟨rfl, hQ4, hO4⟩
          have T4 := hid (T3.out.snd hQ4 hO4)
          clear hQ4 hO4
          go_wp2_with fail
          refine (pos_any r s z w4 T4.out.rd).mono ?_
          rintro e w5 ⟨rfl, rfl⟩
          go_wp2_with fail
          refine (rpos_any q s z w4 T4.out.rq).mono ?_
          rintro e w5 ⟨rfl, rfl⟩
          go_wp2_with fail
          go_roundg (gk - 1)
          case measure => omega
          case rel => exact ⟨j + 1, z, by have := J.out; omega, by go_num, T4.out⟩

open Go.ChangeShapes Go.WideShapes Go.ChangeAt
open Go.ChangeMaps (open_string)
theorem golombReads_core {H : Type} {enc : TypeId × Value → H} (W : World) (base : Nat) (v0 : Value) (d0 : DataW H) (p0 : List MemPlace) (k0 : Value.okWide Try.prog W .any base 9 v0) (h0 : DataW.Trod enc Try.prog W 0 (fun _ => true) true 9 v0 d0 p0)
    (v1 : Value) (d1 : DataW H) (p1 : List MemPlace) (k1 : Value.okWide Try.prog W .any base 22 v1) (h1 : DataW.Trod enc Try.prog W 0 (fun _ => true) true 22 v1 d1 p1) :
    Calls Try.prog 3 #[v0, v1] W fun e w' => e = .returned (.bool true) ∧ Below W.heap.size W w' := by
  obtain ⟨s, rfl, rfl, rfl, w0⟩ := open_string Try.underlying9 k0 h0
  obtain ⟨a, len, cap, f, rfl, hlc, hcm, hc⟩ := open_calls k1 h1
  exact (reads_walk s a len cap f W w0 hlc hcm hc).mono fun e w' ⟨he, ho⟩ => ⟨he, ho.below (Nat.le_refl _) (by simp)⟩
end Go.Proofs.Ytgfcooaobfpdiaa

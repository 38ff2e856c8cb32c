/- The laws' own check, read, write, At and bitsOf. -/
import Derived.Test.YtdkmeldcpamnnaaDoorMkP
namespace Go.Proofs.YtdkmeldcpamnnaaDoor
open Go.RowKit
set_option linter.unusedVariables false

set_option maxHeartbeats 400000 in
theorem lcheck_any (m : Bool) (a : Value) (l : List (Int × Int × Int)) (w : World) (hV : Vars w) (ha : HoldsM w a l) (hk : OksM l) : Calls Tryd.prog 14 #[.bool m, a] w fun e w' => e = .returned (.int .i64 (checkI m l)) ∧ Only [] w w' := by
  have C0 := hid (checkmods_any a l w hV ha hk)
  have C1 := hid (checkmarks_any a l w hV ha hk)
  obtain ⟨a, c, rfl, _⟩ := ha
  cases m with
  | false =>
    go_enter Tryd.func14, Tryd.ntmps14
    go_wp2_with fail
    refine C0.out.mono ?_
    rintro e w1 ⟨rfl, hO⟩
    go_wp2_with fail
    go_ret
    exact ⟨rfl, hO⟩
  | true =>
    go_enter Tryd.func14, Tryd.ntmps14
    go_wp2_with fail
    refine C1.out.mono ?_
    rintro e w1 ⟨rfl, hO⟩
    go_wp2_with fail
    go_ret
    exact ⟨rfl, hO⟩
set_option maxHeartbeats 400000 in
theorem lwrite_any (m : Bool) (b : Nat) (sv : Value) (L : List Bool) (a : Value) (l : List (Int × Int × Int)) (w : World) (hV : Vars w) (h : Wr w b sv L) (ha : HoldsM w a l) (hk : OksM l) (hd : Aside a l b sv) (hL : L.length ≤ 1000000) :
    Calls Tryd.prog 16 #[.pointer (some ⟨b, 0, none⟩), .bool m, a] w fun e w' => e = .returned (.int .i64 (putI m L l).1) ∧ ∃ sv', PutLeft w w' b sv sv' (putI m L l).2 := by
  have C0 := hid (putmods_any b sv L a l w hV h ha hk hd hL)
  have C1 := hid (putmarks_any b sv L a l w hV h ha hk hd hL)
  obtain ⟨a, c, rfl, _⟩ := ha
  cases m with
  | false =>
    generalize putI false L l = r at *
    obtain ⟨k, B⟩ := r
    clear h hd
    go_enter Tryd.func16, Tryd.ntmps16
    go_wp2_with fail
    refine C0.out.mono ?_
    rintro e w1 ⟨rfl, sv', hP⟩
    go_wp2_with fail
    go_ret
    exact ⟨rfl, sv', hP⟩
  | true =>
    generalize putI true L l = r at *
    obtain ⟨k, B⟩ := r
    clear h hd
    go_enter Tryd.func16, Tryd.ntmps16
    go_wp2_with fail
    refine C1.out.mono ?_
    rintro e w1 ⟨rfl, sv', hP⟩
    go_wp2_with fail
    go_ret
    exact ⟨rfl, sv', hP⟩
set_option maxHeartbeats 400000 in
theorem lread_any (m : Bool) (b : Nat) (s : ByteArray) (pos : Nat) (w : World) (hV : Vars w) (h : Rd w b s pos) (hz : s.size ≤ 100000) :
    Calls Tryd.prog 23 #[.pointer (some ⟨b, 0, none⟩), .bool m] w fun e w' => ∃ sv, e = .returned (.tuple #[sv, .int .i64 (readI m s pos).2.1]) ∧ HoldsM w' sv (readI m s pos).1 ∧ Rd w' b s (readI m s pos).2.2 ∧ Only [b] w w' ∧ FreshM w sv (readI m s pos).1 := by
  have C0 := hid (mods_any b s pos w hV h hz)
  have C1 := hid (marks_any b s pos w hV h hz)
  cases m with
  | false =>
    generalize readI false s pos = r at *
    obtain ⟨k, B, q⟩ := r
    clear h
    go_enter Tryd.func23, Tryd.ntmps23
    go_wp2_with fail
    refine C0.out.mono ?_
    rintro e w1 ⟨sv, rfl, hH, hR, hO, hF⟩
    have F := hid (⟨hH, hR, hO, hF⟩ : _ ∧ _ ∧ _ ∧ _)
    clear hH hR hO hF
    go_wp2_with fail
    go_ret2
    exact ⟨sv, rfl, F.out⟩
  | true =>
    generalize readI true s pos = r at *
    obtain ⟨k, B, q⟩ := r
    clear h
    go_enter Tryd.func23, Tryd.ntmps23
    go_wp2_with fail
    refine C1.out.mono ?_
    rintro e w1 ⟨sv, rfl, hH, hR, hO, hF⟩
    have F := hid (⟨hH, hR, hO, hF⟩ : _ ∧ _ ∧ _ ∧ _)
    clear hH hR hO hF
    go_wp2_with fail
    go_ret2
    exact ⟨sv, rfl, F.out⟩
/-- The bits of a list that is valid; none of another one. -/
def bitsI (m : Bool) (l : List (Int × Int × Int)) : List Bool := if checkI m l = 0 then listB m l else []
set_option maxHeartbeats 1000000 in
theorem bitsof_any (m : Bool) (a : Value) (l : List (Int × Int × Int)) (w : World) (hV : Vars w) (ha : HoldsM w a l) (hk : OksM l) :
    Calls Tryd.prog 31 #[.bool m, a] w fun e w' => e = .returned (.string (chars (bitsI m l))) ∧ Only [] w w' := by
  have HA := hid ha
  have HV := hid hV
  have WA := hid (write_any w)
  have WR := hid (fun b sv w (hV : Vars w) h hm hd => lwrite_any m b sv [] a l w hV h hm hk hd (by simp))
  have AF := hid (fun b (hb : w.heap.size ≤ b) => aside_fresh (sv := .slice none 0 0) ha hb (by simp [ownOf, Value.ownBlock]))
  have BB := hid (fun b sv w h => bits_any b sv (listB m l) w h)
  obtain ⟨a, c, rfl, _⟩ := ha
  unfold bitsI
  by_cases hc : checkI m l = 0
  · rw [if_pos hc]
    rw [show putI m [] l = (0, listB m l) from by unfold putI; rw [if_neg (fun x => x hc)]; simp] at WR
    clear hc
    go_enter Tryd.func31, Tryd.ntmps31
    go_wp2_with fail
    refine WA.out.mono ?_
    rintro e w1 ⟨rfl, hW, hO⟩
    have W1 := hid hW
    have O1 := hid hO
    have H1 := hid (HA.out.only0 hO)
    clear hW hO
    go_wp2_with fail
    refine (WR.out _ _ w1 (HV.out.only0 O1.out) W1.out H1.out (AF.out _ (Nat.le_refl _))).mono ?_
    rintro e w2 ⟨rfl, sv', hP⟩
    have P2 := hid hP
    clear hP
    go_wp2_with fail
    refine (BB.out _ _ w2 P2.out.wr).mono ?_
    rintro e w3 ⟨rfl, hO3⟩
    go_wp2_with fail
    go_ret
    refine ⟨rfl, (O1.out.trans2 P2.out.only (fun x hx => .inr (by simp [ownOf, Value.ownBlock] at hx; omega))).trans hO3⟩
  · rw [if_neg hc]
    have e : putI m [] l = (checkI m l, []) := by unfold putI; rw [if_pos hc]
    rw [e] at WR
    generalize checkI m l = k at *
    clear e
    go_enter Tryd.func31, Tryd.ntmps31
    go_wp2_with fail
    refine WA.out.mono ?_
    rintro e w1 ⟨rfl, hW, hO⟩
    have W1 := hid hW
    have O1 := hid hO
    have H1 := hid (HA.out.only0 hO)
    clear hW hO
    go_wp2_with fail
    refine (WR.out _ _ w1 (HV.out.only0 O1.out) W1.out H1.out (AF.out _ (Nat.le_refl _))).mono ?_
    rintro e w2 ⟨rfl, sv', hP⟩
    have P2 := hid hP
    clear hP
    go_wp2_with fail
    go_ret
    exact ⟨rfl, O1.out.trans2 P2.out.only (fun x hx => .inr (by simp [ownOf, Value.ownBlock] at hx; omega))⟩
set_option maxHeartbeats 2000000 in
theorem at9_any (s : ByteArray) (n : Nat) (w : World) (hn : n ≤ 8 * s.size) (hz : s.size ≤ 100000) :
    Calls Tryd.prog 22 #[.string s, .int .i64 n] w fun e w' => ∃ r, e = .returned (.pointer (some ⟨r, 0, none⟩)) ∧ Rd w' r s n ∧ w.heap.size ≤ r ∧ Only [] w w' := by
  have RD := hid (read_any s w (by omega))
  have n0 : (0 : Int) ≤ (n : Int) := by omega
  have n1 : (n : Int) ≤ 8 * (s.size : Int) := by omega
  have s1 : (s.size : Int) ≤ 100000 := by omega
  have s0 : (0 : Int) ≤ (s.size : Int) := by omega
  have NL := hid hn
  clear hn hz
  go_enter Tryd.func22, Tryd.ntmps22
  go_wp2_with fail
  refine RD.out.mono ?_
  rintro e w1 ⟨rfl, hR, hO⟩
  obtain ⟨r, hr⟩ : ∃ r, r = w.heap.size := ⟨_, rfl⟩
  rw [← hr] at hR ⊢
  have R1 := hid hR
  have O1 := hid hO
  have RE := hid hr
  clear hR hO hr
  go_wp2_with fail
  go_loopg [6] n (fun g t wr => ∃ j : Nat, j + g = n ∧ t = .int .i64 j ∧ Rd wr r s j ∧ Only [] w wr)
  case atStart => exact ⟨0, by omega, rfl, R1.out, O1.out⟩
  case round =>
    obtain ⟨j, hj, rfl, hR, hO⟩ := hrel
    have J := hid hj
    have R := hid hR
    have O := hid hO
    have j0 : (0 : Int) ≤ (j : Int) := by omega
    have j1 : (j : Int) ≤ 800000 := by omega
    clear hR hO
    by_cases hg : gk = 0
    · obtain rfl : j = n := by omega
      have m0 : ¬ (j : Int) < (j : Int) := by omega
      clear hj hg
      go_wp2_with fail
      go_ret
      exact ⟨r, rfl, R.out, by rw [RE.out]; exact Nat.le_refl _, O.out⟩
    · have m0 : (j : Int) < (n : Int) := by omega
      have m1 : (j : Int) < 8 * (s.size : Int) := by omega
      obtain ⟨g, rfl⟩ : ∃ g, gk = g + 1 := ⟨gk - 1, by omega⟩
      have B := hid (u_yes r s j 1 wr R.out (by omega) (by have := NL.out; omega))
      clear hj hg
      go_wp2_with fail
      refine B.out.mono ?_
      rintro e w2 ⟨rfl, hR, hO⟩
      have R2 := hid hR
      have O2 := hid (O.out.trans2 hO (fun x hx => by rw [List.mem_singleton.1 hx, RE.out]; exact .inr (Nat.le_refl _)))
      clear hR hO
      go_wp2_with fail
      go_roundg g
      case measure => omega
      case rel => exact ⟨j + 1, by have := J.out; omega, by go_num, R2.out, O2.out⟩

theorem u_int (b : Nat) (s : ByteArray) (pos n : Nat) (N : Int) (hN : N = n) (w : World) (h : Rd w b s pos) (hn : n ≤ 64) (hle : pos + n ≤ 8 * s.size) :
    Calls Tryd.prog 42 #[.pointer (some ⟨b, 0, none⟩), .int .i64 N] w fun e w' => e = .returned (.tuple #[.int .u64 (valOf s pos n), .int .i64 0]) ∧ Rd w' b s (pos + n) ∧ Only [b] w w' := hN ▸ u_yes b s pos n w h hn hle
end Go.Proofs.YtdkmeldcpamnnaaDoor

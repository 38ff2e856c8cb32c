/- The reference's Has, End and Check. -/
/- The reference's writer of codes. -/
/- The reference's Put. -/
import Derived.Test.YtjjjfmnhdnajkaaGreatDoorMg5
import Derived.Test.YtjjjfmnhdnajkaaGreatDoorMg4
import Derived.Deep.LoopGhost
section
set_option maxRecDepth 20000
namespace Go.Proofs.YtjjjfmnhdnajkaaGreatDoor
open Go.RowKit
set_option linter.unusedVariables false

set_option maxHeartbeats 1000000 in
theorem rhas_any (m : Bool) (op : Int) (w : World) : Calls Tryz.prog 108 #[.bool m, .int .i64 op] w fun e w' => e = .returned (.tuple #[.int .i64 (hasI m op).1, .bool (hasI m op).2]) ∧ w = w' := by
  cases m with
  | false =>
    by_cases h : 0 ≤ op
    · by_cases k : op ≤ 2
      · rw [show hasI false op = (1, true) from by simp [hasI, h, k]]
        go_enter Tryz.func108, Tryz.ntmps108
        go_wp2_with fail
        go_ret2
        exact ⟨rfl, rfl⟩
      · rw [show hasI false op = (1, false) from by simp [hasI, h, k]]
        go_enter Tryz.func108, Tryz.ntmps108
        go_wp2_with fail
        go_ret2
        exact ⟨rfl, rfl⟩
    · rw [show hasI false op = (1, false) from by simp [hasI, h]]
      go_enter Tryz.func108, Tryz.ntmps108
      go_wp2_with fail
      go_ret2
      exact ⟨rfl, rfl⟩
  | true =>
    by_cases h : op = 1 ∨ op = 2 ∨ op = 3 ∨ op = 4 ∨ op = 5 ∨ op = 6
    · rcases h with rfl | rfl | rfl | rfl | rfl | rfl
      all_goals
        go_enter Tryz.func108, Tryz.ntmps108
        go_wp2_with fail
        go_ret2
        exact ⟨rfl, rfl⟩
    · have h1 : ¬ op = 1 := fun e => h (.inl e)
      have h2 : ¬ op = 2 := fun e => h (.inr (.inl e))
      have h3 : ¬ op = 3 := fun e => h (.inr (.inr (.inl e)))
      have h4 : ¬ op = 4 := fun e => h (.inr (.inr (.inr (.inl e))))
      have h5 : ¬ op = 5 := fun e => h (.inr (.inr (.inr (.inr (.inl e)))))
      have h6 : ¬ op = 6 := fun e => h (.inr (.inr (.inr (.inr (.inr e)))))
      rw [show hasI true op = (0, false) from by simp [hasI, h1, h2, h3, h4, h5, h6]]
      clear h
      go_enter Tryz.func108, Tryz.ntmps108
      go_wp2_with fail
      go_ret2
      exact ⟨rfl, rfl⟩
set_option maxHeartbeats 400000 in
theorem rend9_any (m : Bool) (w : World) : Calls Tryz.prog 109 #[.bool m] w fun e w' => e = .returned (.int .i64 (endN m : Nat)) ∧ w = w' := by
  cases m
  all_goals
    go_enter Tryz.func109, Tryz.ntmps109
    go_wp2_with fail
    go_ret
    exact ⟨rfl, rfl⟩

/-- The commands' fields have their types' bounds. -/
def OkM (x : Int × Int × Int) : Prop := (0 ≤ x.1 ∧ x.1 ≤ 255) ∧ (-9223372036854775808 ≤ x.2.1 ∧ x.2.1 ≤ 9223372036854775807) ∧ (-9223372036854775808 ≤ x.2.2 ∧ x.2.2 ≤ 9223372036854775807)
def OksM (l : List (Int × Int × Int)) : Prop := ∀ (j : Nat) x, l[j]? = some x → OkM x
theorem drop_oneM (l : List (Int × Int × Int)) (j : Nat) (h : j < l.length) : ∃ x, l[j]? = some x ∧ l.drop j = x :: l.drop (j + 1) := ⟨l[j], List.getElem?_eq_getElem h, List.drop_eq_getElem_cons h⟩
theorem hasI_n {m : Bool} {op : Int} : (hasI m op).1 = 0 ∨ (hasI m op).1 = 1 ∨ (hasI m op).1 = 2 := by
  unfold hasI
  cases m
  · simp
  · simp only [if_true]
    split
    · simp
    · split
      · simp
      · split <;> simp

set_option maxRecDepth 100000 in
set_option maxHeartbeats 8000000 in
theorem rcheck_any (m : Bool) (a : Value) (l : List (Int × Int × Int)) (w : World) (ha : HoldsM w a l) (hk : OksM l) :
    Calls Tryz.prog 107 #[.bool m, a] w fun e w' => e = .returned (.int .i64 (checkI m l)) ∧ Only [] w w' := by
  have HA := hid ha
  obtain ⟨a, c, rfl, hc1, hc2, _⟩ := ha
  have hb : (l.length : Int) ≤ 9223372036854775807 := by unfold maxLen at hc2; omega
  clear hc1 hc2
  obtain ⟨r, hr⟩ : ∃ r, r = checkI m l := ⟨_, rfl⟩
  rw [← hr]
  by_cases hl : 66 < l.length
  · rw [show checkI m l = 6 from by unfold checkI; rw [if_pos hl]] at hr
    subst hr
    have hl' : (66 : Int) < (l.length : Int) := by omega
    clear hl
    go_enter Tryz.func107, Tryz.ntmps107
    go_wp2_with fail
    go_ret
    exact ⟨rfl, Only.refl _ _⟩
  rw [show checkI m l = firstE m l from by unfold checkI; rw [if_neg hl]] at hr
  have R := hid hr
  have hl' : ¬ (66 : Int) < (l.length : Int) := by omega
  have HK := hid hk
  obtain ⟨n, hn⟩ : ∃ n, n = l.length := ⟨_, rfl⟩
  have N := hid hn
  have nb : (n : Int) ≤ 66 := by omega
  rw [← hn] at hl' ⊢
  clear hr hl hk hn hb
  go_enter Tryz.func107, Tryz.ntmps107
  go_wp2_with fail
  go_loopg [5] n (fun g t wr => ∃ j : Nat, j + g = n ∧ t = .int .i64 j ∧ firstE m (l.drop j) = r ∧ Only [] w wr)
  case atStart => exact ⟨0, by omega, rfl, by rw [List.drop_zero]; exact R.out.symm, Only.refl _ _⟩
  case round =>
    obtain ⟨j, hj, rfl, ht, hO⟩ := hrel
    have J := hid hj
    have T := hid ht
    have O := hid hO
    clear ht hO
    have jb : (j : Int) ≤ 66 := by omega
    have j0 : (0 : Int) ≤ (j : Int) := by omega
    by_cases hg : gk = 0
    · obtain rfl : j = n := by omega
      have i1 : ¬ (j : Int) < (j : Int) := by omega
      have e := T.out
      rw [List.drop_of_length_le (by have := N.out; omega)] at e
      have E : r = 0 := e.symm
      subst E
      clear hj hg e
      go_wp2_with fail
      go_ret
      exact ⟨rfl, O.out⟩
    · have i1 : (j : Int) < (n : Int) := by omega
      obtain ⟨g, rfl⟩ : ∃ g, gk = g + 1 := ⟨gk - 1, by omega⟩
      obtain ⟨x, X, D⟩ := drop_oneM l j (by have := N.out; omega)
      obtain ⟨⟨o0, o1⟩, ⟨p0, p1⟩, ⟨q0, q1⟩⟩ := HK.out j x X
      obtain ⟨xb, xo, rfl, hx⟩ := HA.out.at X
      obtain ⟨x0, x1, x2⟩ := hx.only O.out (by simp)
      have F := T.out
      rw [D, firstE] at F
      have HS := hid (fun w => rhas_any m x.1 w)
      have HN := hasI_n (m := m) (op := x.1)
      have JG := hid (show j + 1 + g = n by omega)
      have E1 : errI m x = if (hasI m x.1).2 = false then 9 else if ((hasI m x.1).1 < 2 ∧ x.2.2 ≠ 0) ∨ ((hasI m x.1).1 < 1 ∧ x.2.1 ≠ 0) then 2 else if x.2.1 < 0 ∨ 4294967294 < x.2.1 ∨ x.2.2 < 0 ∨ 4294967294 < x.2.2 then 3 else 0 := rfl
      generalize errI m x = er at *
      generalize hasI m x.1 = h at *
      obtain ⟨nn, is⟩ := h
      obtain ⟨op, A, B⟩ := x
      dsimp only at *
      clear hj hg hx X D T
      go_wp2_with fail
      refine (HS.out _).mono ?_
      rintro e w2 ⟨rfl, rfl⟩
      clear HS
      cases is with
      | false =>
        simp only [if_true] at E1
        subst E1
        simp only [ne_eq, (by decide : ¬ (9 : Int) = 0), not_false_eq_true, if_true] at F
        subst F
        go_wp2_with fail
        go_ret
        exact ⟨rfl, O.out⟩
      | true =>
        simp only [Bool.true_eq_false, if_false] at E1
        rcases HN with rfl | rfl | rfl
        · by_cases hB : B = 0
          · subst hB
            by_cases hA : A = 0
            · subst hA
              obtain rfl : er = 0 := by rw [E1]; simp <;> omega
              have F2 := hid (show firstE m (l.drop (j + 1)) = r by rw [← F]; simp)
              clear E1 F
              go_wp2_with fail
              go_roundg g
              case measure => omega
              case rel => exact ⟨j + 1, JG.out, by go_num, F2.out, O.out⟩
            · obtain rfl : er = 2 := by rw [E1]; simp <;> omega
              obtain rfl : r = 2 := by rw [← F]; simp
              clear E1 F
              go_wp2_with fail
              go_ret
              exact ⟨rfl, O.out⟩
          · obtain rfl : er = 2 := by rw [E1]; simp <;> omega
            obtain rfl : r = 2 := by rw [← F]; simp
            clear E1 F
            go_wp2_with fail
            go_ret
            exact ⟨rfl, O.out⟩
        · by_cases hB : B = 0
          · subst hB
            by_cases hA : A < 0
            · obtain rfl : er = 3 := by rw [E1]; simp <;> omega
              obtain rfl : r = 3 := by rw [← F]; simp
              clear E1 F
              go_wp2_with fail
              go_ret
              exact ⟨rfl, O.out⟩
            · by_cases hA2 : (4294967294 : Int) < A
              · obtain rfl : er = 3 := by rw [E1]; simp <;> omega
                obtain rfl : r = 3 := by rw [← F]; simp
                clear E1 F
                go_wp2_with fail
                go_ret
                exact ⟨rfl, O.out⟩
              · obtain rfl : er = 0 := by rw [E1]; simp <;> omega
                have F2 := hid (show firstE m (l.drop (j + 1)) = r by rw [← F]; simp)
                clear E1 F
                go_wp2_with fail
                go_roundg g
                case measure => omega
                case rel => exact ⟨j + 1, JG.out, by go_num, F2.out, O.out⟩
          · obtain rfl : er = 2 := by rw [E1]; simp <;> omega
            obtain rfl : r = 2 := by rw [← F]; simp
            clear E1 F
            go_wp2_with fail
            go_ret
            exact ⟨rfl, O.out⟩
        · by_cases hA : A < 0
          · obtain rfl : er = 3 := by rw [E1]; simp <;> omega
            obtain rfl : r = 3 := by rw [← F]; simp
            clear E1 F
            go_wp2_with fail
            go_ret
            exact ⟨rfl, O.out⟩
          · by_cases hA2 : (4294967294 : Int) < A
            · obtain rfl : er = 3 := by rw [E1]; simp <;> omega
              obtain rfl : r = 3 := by rw [← F]; simp
              clear E1 F
              go_wp2_with fail
              go_ret
              exact ⟨rfl, O.out⟩
            · by_cases hB : B < 0
              · obtain rfl : er = 3 := by rw [E1]; simp <;> omega
                obtain rfl : r = 3 := by rw [← F]; simp
                clear E1 F
                go_wp2_with fail
                go_ret
                exact ⟨rfl, O.out⟩
              · by_cases hB2 : (4294967294 : Int) < B
                · obtain rfl : er = 3 := by rw [E1]; simp <;> omega
                  obtain rfl : r = 3 := by rw [← F]; simp
                  clear E1 F
                  go_wp2_with fail
                  go_ret
                  exact ⟨rfl, O.out⟩
                · obtain rfl : er = 0 := by rw [E1]; simp <;> omega
                  have F2 := hid (show firstE m (l.drop (j + 1)) = r by rw [← F]; simp)
                  clear E1 F
                  go_wp2_with fail
                  go_roundg g
                  case measure => omega
                  case rel => exact ⟨j + 1, JG.out, by go_num, F2.out, O.out⟩
end Go.Proofs.YtjjjfmnhdnajkaaGreatDoor

end
section
set_option maxRecDepth 20000
namespace Go.Proofs.YtjjjfmnhdnajkaaGreatDoor
open Go.RowKit
set_option linter.unusedVariables false

theorem RPut.same {w : World} {b : Nat} {sv : Value} {l : List Bool} (h : RWr w b sv l) : RPut w w b sv sv l := ⟨h, fun g hg => .inl hg, Only.refl _ _⟩
theorem RPut.trans {w w1 w2 : World} {b : Nat} {sv sv1 sv2 : Value} {l1 l2 : List Bool} (h : RPut w w1 b sv sv1 l1) (k : RPut w1 w2 b sv1 sv2 l2) : RPut w w2 b sv sv2 l2 :=
  ⟨k.wr, fun g hg => by
    rcases k.own g hg with e | e
    · exact h.own g e
    · exact .inr (Nat.le_trans h.only.size e),
   h.only.trans2 k.only (fun x hx => by
    rcases List.mem_cons.1 hx with e | e
    · exact .inl (by rw [e]; exact List.mem_cons_self)
    · rcases h.own x e with e | e
      · exact .inl (List.mem_cons_of_mem _ e)
      · exact .inr e)⟩

theorem ueBits_two (v n : Nat) (hn : Lib.bitLen (v + 1) = n + 1) (h : v + 1 < 2 ^ (n + 1)) : ueBits v = bitsOf n 0 ++ bitsOf (n + 1) (v + 1) := by
  unfold ueBits
  rw [hn, show 2 * (n + 1) - 1 = n + (n + 1) from by omega, bitsOf_small _ _ h]

set_option maxHeartbeats 1000000 in
theorem rputue_yes (b : Nat) (sv : Value) (l : List Bool) (v : Nat) (w : World) (h : RWr w b sv l) (hv : v ≤ 4294967294) (hsz : l.length + 128 ≤ 140737488355328) :
    Calls Tryz.prog 58 #[.pointer (some ⟨b, 0, none⟩), .int .u64 v] w fun e w' => e = .returned (.int .i64 0) ∧ ∃ sv', RPut w w' b sv sv' (l ++ ueBits v) := by
  have H := hid h
  have p32 : (2 : Nat) ^ 32 = 4294967296 := by decide
  obtain ⟨b1, b2, b3, b4⟩ := bitLen_mid (v + 1) (by omega) (by omega)
  obtain ⟨N, hN⟩ : ∃ N, Lib.bitLen (v + 1) = N + 1 := ⟨Lib.bitLen (v + 1) - 1, by omega⟩
  have TW := hid (ueBits_two v N hN (hN ▸ b4))
  rw [hN] at b2 b3 b4
  rw [Nat.add_sub_cancel] at b3
  have P1 := hid (fun w h => rput_yes b sv l N 0 w h (by omega) (Nat.pow_pos (by omega)) (by omega))
  have P2 := hid (fun sv1 w h => rput_yes b sv1 (l ++ bitsOf N 0) (N + 1) (v + 1) w h (by omega) b4 (by rw [List.length_append, length_bitsOf]; omega))
  have c1 : ((N + 1 : Nat) : Int) = (N : Int) + 1 := by omega
  have c2 : ((v + 1 : Nat) : Int) = (v : Int) + 1 := by omega
  have c3 : ((0 : Nat) : Int) = 0 := rfl
  rw [c1, c2] at P2
  rw [c3] at P1
  have B3 := hid b3
  have B4 := hid b4
  have hN31 : N ≤ 31 := by omega
  have hv' : (v : Int) ≤ 4294967294 := by omega
  clear h p32 b1 b2 b3 b4 hN c1 c2 c3 hv hsz
  go_enter Tryz.func58, Tryz.ntmps58
  go_wp2_with fail
  go_loopg [5] N (fun g i wr => ∃ n : Nat, n + g = N ∧ i = .int .i64 n ∧ wr = w)
  case atStart => exact ⟨0, by omega, rfl, rfl⟩
  case round =>
    obtain ⟨n, hn, rfl, rfl⟩ := hrel
    have J := hid hn
    have hn31 : (n : Int) ≤ 31 := by omega
    have ht : ((n : Int) + 1).toNat = n + 1 := by omega
    obtain ⟨X, hX⟩ : ∃ X : Nat, X = 2 ^ (n + 1) := ⟨_, rfl⟩
    have hp : (2 : Int) ^ (n + 1) = (X : Int) := by rw [hX, Int.natCast_pow]; rfl
    have hX32 : (X : Int) ≤ 4294967296 := by
      have : 2 ^ (n + 1) ≤ 2 ^ 32 := Nat.pow_le_pow_right (by omega) (by omega)
      have p32 : (2 : Nat) ^ 32 = 4294967296 := by decide
      omega
    by_cases hg : gk = 0
    · obtain rfl : n = N := by omega
      have hlt : (v : Int) + 1 < (X : Int) := by have := B4.out; omega
      clear hn hX
      go_wp2_with fail
      refine (P1.out wr H.out).mono ?_
      rintro e w1 ⟨rfl, sv1, hp1⟩
      have L1 := hid hp1
      have C2 := hid (P2.out sv1 w1 hp1.wr)
      clear hp1
      go_wp2_with fail
      refine C2.out.mono ?_
      rintro e w2 ⟨rfl, sv2, hp2⟩
      go_wp2_with fail
      go_ret
      refine ⟨rfl, sv2, ?_⟩
      rw [TW.out, ← List.append_assoc]
      exact L1.out.trans hp2
    · have hle : (X : Int) ≤ (v : Int) + 1 := by
        have := B3.out
        have : 2 ^ (n + 1) ≤ 2 ^ N := Nat.pow_le_pow_right (by omega) (by omega)
        omega
      clear hn hX
      go_wp2_with fail
      go_roundg (gk - 1)
      case measure => omega
      case rel => exact ⟨n + 1, by have := J.out; omega, by go_num, rfl⟩

set_option maxHeartbeats 400000 in
theorem rputue_range (b : Nat) (v : Int) (w : World) (h : 4294967294 < v) :
    Calls Tryz.prog 58 #[.pointer (some ⟨b, 0, none⟩), .int .u64 v] w fun e w' => e = .returned (.int .i64 3) ∧ w = w' := by
  go_enter Tryz.func58, Tryz.ntmps58
  go_wp2
  go_ret
  exact ⟨rfl, rfl⟩
theorem rputue_any (b : Nat) (sv : Value) (l : List Bool) (v : Nat) (w : World) (h : RWr w b sv l) (hsz : l.length + 128 ≤ 140737488355328) :
    Calls Tryz.prog 58 #[.pointer (some ⟨b, 0, none⟩), .int .u64 v] w fun e w' => e = .returned (.int .i64 (wrUe l v).1) ∧ ∃ sv', RPut w w' b sv sv' (wrUe l v).2 := by
  unfold wrUe
  by_cases h1 : 4294967294 < v
  · rw [if_pos h1]
    exact (rputue_range b v w (by omega)).mono fun e w' ⟨he, hw⟩ => ⟨he, sv, hw ▸ RPut.same h⟩
  · rw [if_neg h1]
    exact rputue_yes b sv l v w h (by omega) hsz

set_option maxHeartbeats 400000 in
theorem rputse_range (b : Nat) (v : Int) (w : World) (h : v < -2147483647 ∨ 2147483647 < v) :
    Calls Tryz.prog 61 #[.pointer (some ⟨b, 0, none⟩), .int .i64 v] w fun e w' => e = .returned (.int .i64 3) ∧ w = w' := by
  rcases h with h | h
  · go_enter Tryz.func61, Tryz.ntmps61
    go_wp2
    go_ret
    exact ⟨rfl, rfl⟩
  · have h' : -2147483647 ≤ v := by omega
    go_enter Tryz.func61, Tryz.ntmps61
    go_wp2
    go_ret
    exact ⟨rfl, rfl⟩
set_option maxHeartbeats 400000 in
theorem rputse_yes (b : Nat) (sv : Value) (l : List Bool) (v : Int) (w : World) (h : RWr w b sv l) (h1 : -2147483647 ≤ v) (h2 : v ≤ 2147483647) (hsz : l.length + 128 ≤ 140737488355328) :
    Calls Tryz.prog 61 #[.pointer (some ⟨b, 0, none⟩), .int .i64 v] w fun e w' => e = .returned (.int .i64 0) ∧ ∃ sv', RPut w w' b sv sv' (l ++ ueBits (seNum v)) := by
  have C := hid (fun x (hx : x = seNum v) => rputue_any b sv l x w h hsz)
  have C2 := hid (C.out _ rfl)
  rw [wrUe_se l v h1 h2] at C2
  clear C
  by_cases h0 : 0 < v
  · have e : ((seNum v : Nat) : Int) = 2 * v - 1 := by unfold seNum; rw [if_pos h0]; omega
    rw [e] at C2
    generalize seNum v = x at *
    clear h hsz e
    go_enter Tryz.func61, Tryz.ntmps61
    go_wp2_with fail
    refine C2.out.mono ?_
    rintro e w1 ⟨rfl, sv', hP⟩
    go_wp2_with fail
    go_ret
    exact ⟨rfl, sv', hP⟩
  · have e : ((seNum v : Nat) : Int) = -2 * v := by unfold seNum; rw [if_neg h0]; omega
    rw [e] at C2
    have h0' : v ≤ 0 := by omega
    generalize seNum v = x at *
    clear h hsz e h0
    go_enter Tryz.func61, Tryz.ntmps61
    go_wp2_with fail
    refine C2.out.mono ?_
    rintro e w1 ⟨rfl, sv', hP⟩
    go_wp2_with fail
    go_ret
    exact ⟨rfl, sv', hP⟩
theorem rputse_any (b : Nat) (sv : Value) (l : List Bool) (v : Int) (w : World) (h : RWr w b sv l) (hsz : l.length + 128 ≤ 140737488355328) :
    Calls Tryz.prog 61 #[.pointer (some ⟨b, 0, none⟩), .int .i64 v] w fun e w' => e = .returned (.int .i64 (wrSe l v).1) ∧ ∃ sv', RPut w w' b sv sv' (wrSe l v).2 := by
  unfold wrSe
  by_cases h1 : v < -2147483647 ∨ 2147483647 < v
  · rw [if_pos h1]
    exact (rputse_range b v w h1).mono fun e w' ⟨he, hw⟩ => ⟨he, sv, hw ▸ RPut.same h⟩
  · rw [if_neg h1]
    exact rputse_yes b sv l v w h (by omega) (by omega) hsz
end Go.Proofs.YtjjjfmnhdnajkaaGreatDoor

end
section
set_option maxRecDepth 20000
namespace Go.Proofs.YtjjjfmnhdnajkaaGreatDoor
open Go.RowKit
set_option linter.unusedVariables false

theorem firstE_at {m : Bool} {l : List (Int × Int × Int)} (h : firstE m l = 0) : ∀ (j : Nat) x, l[j]? = some x → errI m x = 0 := by
  induction l with
  | nil => intro j x hx; simp at hx
  | cons y l ih =>
    obtain ⟨h1, h2⟩ := firstE_cons h
    intro j x hx
    cases j with
    | zero => simp at hx; subst hx; exact h1
    | succ j => simp at hx; exact ih h2 j x hx
theorem modsB_append (m : Bool) (a b : List (Int × Int × Int)) : modsB m (a ++ b) = modsB m a ++ modsB m b := by
  induction a with
  | nil => rfl
  | cons x a ih => rw [List.cons_append, modsB, modsB, ih, List.append_assoc]
theorem modBits_le {m : Bool} {x : Int × Int × Int} (h : errI m x = 0) : (modBits m x).length ≤ 189 := by
  obtain ⟨h1, _, _, a, b, c, d⟩ := errI_ok h
  obtain ⟨o1, o2, _⟩ := hasI_le h1
  have u1 := ueBits_le x.1.toNat (by omega)
  have u2 := ueBits_le x.2.1.toNat (by omega)
  have u3 := ueBits_le x.2.2.toNat (by omega)
  unfold modBits
  rw [List.length_append, List.length_append]
  split <;> split <;> simp <;> omega
theorem modsB_le {m : Bool} {l : List (Int × Int × Int)} (h : ∀ (j : Nat) x, l[j]? = some x → errI m x = 0) : (modsB m l).length ≤ 189 * l.length := by
  induction l with
  | nil => simp [modsB]
  | cons y l ih =>
    have h1 := modBits_le (h 0 y (by simp))
    have h2 := ih (fun j x hx => h (j + 1) x (by simpa using hx))
    rw [modsB, List.length_append, List.length_cons]
    omega
theorem rputue_int (b : Nat) (sv : Value) (l : List Bool) (V : Int) (v : Nat) (hV : V = v) (hv : v ≤ 4294967294) (w : World) (h : RWr w b sv l) (hsz : l.length ≤ 2000000) :
    Calls Tryz.prog 58 #[.pointer (some ⟨b, 0, none⟩), .int .u64 V] w fun e w' => e = .returned (.int .i64 0) ∧ ∃ sv', RPut w w' b sv sv' (l ++ ueBits v) := by
  have := rputue_any b sv l v w h (by omega)
  rw [show wrUe l v = (0, l ++ ueBits v) from by unfold wrUe; rw [if_neg (by omega)]] at this
  exact hV ▸ this
/-- The block of a slice that comes in is none of a writer's. -/
def Aside (a : Value) (l : List (Int × Int × Int)) (b : Nat) (sv : Value) : Prop := ∀ ad n c, a = .slice (some ad) n c → l ≠ [] → ad.block ≠ b ∧ ad.block ∉ ownOf sv
theorem HoldsM.lt {w : World} {ad : Addr} {n c : Nat} {l : List (Int × Int × Int)} (h : HoldsM w (.slice (some ad) n c) l) (hl : l ≠ []) : ad.block < w.heap.size := by
  obtain ⟨a2, c2, e, _, _, h3⟩ := h
  cases e
  rcases h3 with h3 | ⟨b, o, e, hc⟩
  · exact absurd h3 hl
  · cases e
    exact World.block_lt_of_cell? _ _ (hc 0 _ (List.getElem?_eq_getElem (List.length_pos_iff.2 hl))).c0
/-- A writer that was made behind the slice. -/
theorem aside_fresh {w : World} {a : Value} {l : List (Int × Int × Int)} {b : Nat} {sv : Value} (h : HoldsM w a l) (hb : w.heap.size ≤ b) (ho : ∀ g, g ∈ ownOf sv → w.heap.size ≤ g) : Aside a l b sv := by
  rintro ad n c rfl hl
  have := h.lt hl
  exact ⟨by omega, fun e => by have := ho _ e; omega⟩
/-- .. and what only the writer's blocks have changed. -/
theorem HoldsM.aside {S : List Nat} {w w' : World} {a : Value} {l : List (Int × Int × Int)} (h : HoldsM w a l) (k : Only S w w') (hS : ∀ x, x ∈ S → w.heap.size ≤ x) : HoldsM w' a l := by
  by_cases e : l = []
  · obtain ⟨a2, c2, rfl, h1, h2, h3⟩ := h
    exact ⟨a2, c2, rfl, h1, h2, .inl e⟩
  · exact h.only k (fun ad n c he hx => by subst he; have := h.lt e; have := hS _ hx; omega)

set_option maxRecDepth 100000 in
set_option maxHeartbeats 8000000 in
theorem rput9_any (m : Bool) (b : Nat) (sv : Value) (L : List Bool) (a : Value) (l : List (Int × Int × Int)) (w : World) (h : RWr w b sv L) (ha : HoldsM w a l) (hk : OksM l) (hd : Aside a l b sv) (hL : L.length ≤ 1000000) :
    Calls Tryz.prog 60 #[.pointer (some ⟨b, 0, none⟩), .bool m, a] w fun e w' => e = .returned (.int .i64 (putI m L l).1) ∧ ∃ sv', RPut w w' b sv sv' (putI m L l).2 := by
  have H := hid h
  have HA := hid ha
  have HD := hid hd
  have CK := hid (rcheck_any m a l w ha hk)
  obtain ⟨a, c, rfl, _⟩ := ha
  by_cases hc : checkI m l = 0
  · have hn : l.length ≤ 66 := by
      unfold checkI at hc
      split at hc
      · cases hc
      · omega
    have hf : firstE m l = 0 := by
      unfold checkI at hc
      split at hc
      · cases hc
      · exact hc
    have FA := hid (firstE_at hf)
    have e : putI m L l = (0, L ++ listB m l) := by unfold putI; rw [if_neg (fun x => x hc)]
    rw [e]
    rw [hc] at CK
    obtain ⟨B, hB⟩ : ∃ B, B = L ++ listB m l := ⟨_, rfl⟩
    rw [← hB]
    have BB := hid hB
    have EN := hid (fun w => rend9_any m w)
    obtain ⟨n, hn'⟩ : ∃ n, n = l.length := ⟨_, rfl⟩
    have N := hid hn'
    have HL := hid hL
    rw [← hn'] at hn CK ⊢
    have nb : (n : Int) ≤ 66 := by omega
    clear h hk hd hL hc hf e hB hn' hn
    go_enter Tryz.func60, Tryz.ntmps60
    go_wp2_with fail
    refine CK.out.mono ?_
    rintro e w1 ⟨rfl, hO1⟩
    have O1 := hid hO1
    have HL0 := hid (H.out.lt)
    have P1 := hid (show RPut w1 w1 b sv sv L from RPut.same (H.out.only hO1 (by simp) (by simp)))
    have HA1 := hid (HA.out.only0 hO1)
    clear hO1 CK
    go_wp2_with fail
    go_loopg [8] n (fun g t wr => ∃ (j : Nat) (sv2 : Value), j + g = n ∧ t = .int .i64 j ∧ RPut w1 wr b sv sv2 (L ++ modsB m (l.take j)))
    case atStart => exact ⟨0, sv, by omega, rfl, by rw [List.take_zero, modsB, List.append_nil]; exact P1.out⟩
    case round =>
      obtain ⟨j, sv2, hj, rfl, hP⟩ := hrel
      have P := hid hP
      clear hP
      have jb : (j : Int) ≤ 66 := by omega
      have j0 : (0 : Int) ≤ (j : Int) := by omega
      by_cases hg : gk = 0
      · obtain rfl : j = n := by omega
        have i1 : ¬ (j : Int) < (j : Int) := by omega
        have e := BB.out
        rw [listB, ← List.append_assoc] at e
        have PE := hid (fun w2 sv3 (k : RPut wr w2 b sv2 sv3 ((L ++ modsB m l) ++ ueBits (endN m))) => (show RPut w w2 b sv sv3 B by
          rw [e]
          exact (RPut.same H.out |>.trans ⟨P1.out.wr, fun g hg => .inl hg, O1.out.mono (by simp)⟩).trans (P.out.trans k)))
        have ht : l.take j = l := List.take_of_length_le (by have := N.out; omega)
        have PW := hid (rputue_int b sv2 (L ++ modsB m l) (endN m : Nat) (endN m) rfl (by unfold endN; split <;> omega) wr (by have := P.out.wr; rw [ht] at this; exact this) (by
          have := modsB_le FA.out
          have := N.out
          have := HL.out
          rw [List.length_append]
          omega))
        have en0 : (0 : Int) ≤ (endN m : Nat) := by omega
        have en1 : ((endN m : Nat) : Int) ≤ 3 := by unfold endN; split <;> omega
        clear hj hg e ht
        generalize endN m = en at *
        go_wp2_with fail
        refine (EN.out _).mono ?_
        rintro e w2 ⟨rfl, rfl⟩
        go_wp2_with fail
        refine PW.out.mono ?_
        rintro e w2 ⟨rfl, sv3, hk⟩
        go_wp2_with fail
        go_ret
        exact ⟨rfl, sv3, PE.out _ _ hk⟩
      · have i1 : (j : Int) < (n : Int) := by omega
        obtain ⟨g, rfl⟩ : ∃ g, gk = g + 1 := ⟨gk - 1, by omega⟩
        obtain ⟨x, X, T1⟩ := take_oneM l j (by have := N.out; omega)
        have ex := FA.out j x X
        obtain ⟨h1, _, _, a0, a1, b0, b1⟩ := errI_ok ex
        obtain ⟨o0, o1, _⟩ := hasI_le h1
        obtain ⟨xb, xo, rfl, hx⟩ := HA1.out.at X
        obtain ⟨hd1, hd2⟩ := HD.out _ _ _ rfl (fun e => by rw [e] at X; simp at X)
        have XD := hid (show xb ∉ b :: ownOf sv by simp; exact ⟨hd1, hd2⟩)
        have HX := hid hx
        obtain ⟨x0, x1, x2⟩ := hx.only P.out.only XD.out
        have JG := hid (show j + 1 + g = n by omega)
        have HS := hid (fun w => rhas_any m x.1 w)
        have LB : (L ++ modsB m (l.take j)).length ≤ 1500000 := by
          have := modsB_le (l := l.take j) (m := m) (fun k y hy => FA.out k y (by
            obtain ⟨q1, q2⟩ := List.getElem?_eq_some_iff.1 hy
            rw [List.length_take] at q1
            rw [← hy, List.getElem?_take, if_pos (by omega)]))
          rw [List.length_take] at this
          have := HL.out
          rw [List.length_append]
          omega
        have BT : L ++ modsB m (l.take (j + 1)) = (L ++ modsB m (l.take j)) ++ modBits m x := by rw [T1, modsB_append, modsB, modsB, List.append_nil, List.append_assoc]
        generalize L ++ modsB m (l.take j) = L1 at *
        have e1 : (x.1.toNat : Int) = x.1 := by omega
        have e2 : (x.2.1.toNat : Int) = x.2.1 := by omega
        have e3 : (x.2.2.toNat : Int) = x.2.2 := by omega
        have u1 := ueBits_le x.1.toNat (by omega)
        have u2 := ueBits_le x.2.1.toNat (by omega)
        have u3 := ueBits_le x.2.2.toNat (by omega)
        have W1 := hid (fun sv l w h hs => rputue_int b sv l x.1 x.1.toNat e1.symm (by omega) w h hs)
        have W2 := hid (fun sv l w h hs => rputue_int b sv l x.2.1 x.2.1.toNat e2.symm (by omega) w h hs)
        have W3 := hid (fun sv l w h hs => rputue_int b sv l x.2.2 x.2.2.toNat e3.symm (by omega) w h hs)
        have HN := hasI_n (m := m) (op := x.1)
        unfold modBits at BT
        have UB := hid (And.intro LB (And.intro u1 (And.intro u2 u3)))
        generalize hh : hasI m x.1 = h at *
        obtain ⟨nn, is⟩ := h
        dsimp only at h1 HN BT
        subst h1
        have BT := hid BT
        generalize ueBits x.1.toNat = c1 at *
        generalize ueBits x.2.1.toNat = c2 at *
        generalize ueBits x.2.2.toNat = c3 at *
        clear ex e1 e2 e3 u1 u2 u3 LB hh hj hg hx T1 X hd1 hd2
        obtain ⟨op, A, B9⟩ := x
        dsimp only at *
        go_wp2_with fail
        refine (HS.out _).mono ?_
        rintro e w2 ⟨rfl, rfl⟩
        clear HS
        go_wp2_with fail
        refine (W1.out sv2 L1 wr P.out.wr (by have := UB.out; omega)).mono ?_
        rintro e w2 ⟨rfl, sv3, hk1⟩
        have P2 := hid (P.out.trans hk1)
        clear hk1 x0 x1 x2 P
        obtain ⟨x0, x1, x2⟩ := HX.out.only P2.out.only XD.out
        dsimp only at x0 x1 x2
        rcases HN with rfl | rfl | rfl
        · go_wp2_with fail
          go_roundg g
          case measure => omega
          case rel => exact ⟨j + 1, sv3, JG.out, by go_num, by rw [BT.out]; simpa using P2.out⟩
        · go_wp2_with fail
          refine (W2.out sv3 (L1 ++ c1) w2 P2.out.wr (by have := UB.out; rw [List.length_append]; omega)).mono ?_
          rintro e w3 ⟨rfl, sv4, hk2⟩
          have P3 := hid (P2.out.trans hk2)
          clear hk2 x0 x1 x2 P2
          obtain ⟨x0, x1, x2⟩ := HX.out.only P3.out.only XD.out
          dsimp only at x0 x1 x2
          go_wp2_with fail
          go_roundg g
          case measure => omega
          case rel => exact ⟨j + 1, sv4, JG.out, by go_num, by rw [BT.out]; simpa using P3.out⟩
        · go_wp2_with fail
          refine (W2.out sv3 (L1 ++ c1) w2 P2.out.wr (by have := UB.out; rw [List.length_append]; omega)).mono ?_
          rintro e w3 ⟨rfl, sv4, hk2⟩
          have P3 := hid (P2.out.trans hk2)
          clear hk2 x0 x1 x2 P2
          obtain ⟨x0, x1, x2⟩ := HX.out.only P3.out.only XD.out
          dsimp only at x0 x1 x2
          go_wp2_with fail
          refine (W3.out sv4 (L1 ++ c1 ++ c2) w3 P3.out.wr (by have := UB.out; rw [List.length_append, List.length_append]; omega)).mono ?_
          rintro e w4 ⟨rfl, sv5, hk3⟩
          have P4 := hid (P3.out.trans hk3)
          clear hk3 x0 x1 x2 P3
          go_wp2_with fail
          go_roundg g
          case measure => omega
          case rel => exact ⟨j + 1, sv5, JG.out, by go_num, by rw [BT.out]; simpa using P4.out⟩
  · have e : putI m L l = (checkI m l, L) := by unfold putI; rw [if_pos hc]
    rw [e]
    generalize checkI m l = k at *
    clear h hk hd hL e
    go_enter Tryz.func60, Tryz.ntmps60
    go_wp2_with fail
    refine CK.out.mono ?_
    rintro e w1 ⟨rfl, hO1⟩
    have O1 := hid hO1
    clear hO1 CK
    go_wp2_with fail
    go_ret
    exact ⟨rfl, sv, H.out.only O1.out (by simp) (by simp), fun g hg => .inl hg, O1.out.mono (by simp)⟩
end Go.Proofs.YtjjjfmnhdnajkaaGreatDoor

end

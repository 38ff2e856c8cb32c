/- The program's put. -/
import Derived.Test.YtjjjfmnhdnajkaaGreatDoorMg11
import Derived.Test.YtjjjfmnhdnajkaaGreatDoorMg6
import Derived.Test.YtjjjfmnhdnajkaaGreatDoorMg5
namespace Go.Proofs.YtjjjfmnhdnajkaaGreatDoor
open Go.RowKit
set_option linter.unusedVariables false

theorem putue_int (b : Nat) (sv : Value) (l : List Bool) (V : Int) (v : Nat) (hV : V = v) (hv : v ≤ 4294967294) (w : World) (h : Wr w b sv l) (hsz : l.length ≤ 2000000) :
    Calls Tryz.prog 64 #[.pointer (some ⟨b, 0, none⟩), .int .u64 V] w fun e w' => e = .returned (.int .i64 0) ∧ ∃ sv', PutLeft w w' b sv sv' (l ++ ueBits v) := by
  have := putue_any b sv l v w h (by omega) (by omega)
  rw [show wrUe l v = (0, l ++ ueBits v) from by unfold wrUe; rw [if_neg (by omega)]] at this
  exact hV ▸ this
theorem Wr.only0 {w w' : World} {b : Nat} {sv : Value} {l : List Bool} (h : Wr w b sv l) (k : Only [] w w') : Wr w' b sv l := h.only k (by simp) (by simp)
theorem PutLeft.only0 {w w1 w2 : World} {b : Nat} {sv sv1 : Value} {l : List Bool} (h : PutLeft w w1 b sv sv1 l) (k : Only [] w1 w2) : PutLeft w w2 b sv sv1 l :=
  h.trans ⟨h.wr.only0 k, fun g hg => .inl hg, k.mono (by simp)⟩
theorem PutLeft.behind {w0 w w1 : World} {b : Nat} {sv sv1 : Value} {l : List Bool} (h : PutLeft w w1 b sv sv1 l) (k : Only [] w0 w) : PutLeft w0 w1 b sv sv1 l :=
  ⟨h.wr, fun g hg => (h.own g hg).imp id (fun e => Nat.le_trans k.size e), (k.mono (T := b :: ownOf sv) (by simp)).trans h.only⟩
/-- A block of the world is none of a writer's that is older. -/
theorem Wr.not_new {w : World} {b : Nat} {sv : Value} {l : List Bool} (h : Wr w b sv l) {E : Nat} (hE : w.heap.size ≤ E) : E ∉ b :: ownOf sv := by
  intro e
  rcases List.mem_cons.1 e with e | e
  · have := h.lt; omega
  · have := h.row.lt E e; omega
theorem kat_bits (m : Bool) (w : World) (b : Nat) (h : KAt w b m) : w.cell? ⟨b, 0, none⟩ = some (.int .u64 (endN m : Nat)) := h 0 _ (by cases m <;> rfl)

set_option maxRecDepth 100000 in
set_option maxHeartbeats 8000000 in
theorem put9_any (m : Bool) (b : Nat) (sv : Value) (L : List Bool) (a : Value) (l : List (Int × Int × Int)) (w : World) (h : Wr w b sv L) (ha : HoldsM w a l) (hk : OksM l) (hd : Aside a l b sv) (hL : L.length ≤ 1000000) :
    Calls Tryz.prog 152 #[kindV m, .pointer (some ⟨b, 0, none⟩), a] w fun e w' => e = .returned (.int .i64 (putI m L l).1) ∧ ∃ sv', PutLeft w w' b sv sv' (putI m L l).2 := by
  have H := hid h
  have HA := hid ha
  have HD := hid hd
  have CK := hid (fun w ha => check9_any m a l w ha hk)
  have KN := hid (kat_new w m 186)
  obtain ⟨a, c, rfl, _⟩ := ha
  by_cases hc : checkI m l = 0
  · have hn : l.length ≤ 66 := by
      unfold checkI at hc
      split at hc
      · cases hc
      · omega
    have hf : firstE m l = 0 := by
      unfold checkI at hc
      split at hc
      · cases hc
      · exact hc
    have FA := hid (firstE_at hf)
    have e : putI m L l = (0, L ++ listB m l) := by unfold putI; rw [if_neg (fun x => x hc)]
    rw [e]
    rw [hc] at CK
    obtain ⟨B, hB⟩ : ∃ B, B = L ++ listB m l := ⟨_, rfl⟩
    rw [← hB]
    have BB := hid hB
    obtain ⟨n, hn'⟩ : ∃ n, n = l.length := ⟨_, rfl⟩
    have N := hid hn'
    have HL := hid hL
    rw [← hn'] at hn CK ⊢
    have nb : (n : Int) ≤ 66 := by omega
    clear h hk hd hL hc hf e hB hn' hn
    have HA0 := hid HA.out
    have HX : HoldsM w (.slice a n c) l := by rw [N.out]; exact HA.out
    have HA := hid HX
    have HDD : Aside (.slice a n c) l b sv := by rw [N.out]; exact HD.out
    have HD := hid HDD
    clear HX HDD
    rw [← N.out] at HA0
    cases m with
    | false =>
      simp only [kindV, kindC] at CK KN ⊢
      go_enter Tryz.func152, Tryz.ntmps152
      go_wp2_with fail
      refine (CK.out _ (HA0.out.only0 KN.out.2)).mono ?_
      rintro e w1 ⟨rfl, hO1⟩
      have O1 := hid (KN.out.2.trans hO1)
      have K1 := hid (KN.out.1.only hO1 (by simp))
      have DB := hid (H.out.not_new (Nat.le_refl _))
      have HA1 := hid (HA.out.only0 O1.out)
      have P1 := hid (PutLeft.same (H.out.only0 O1.out))
      clear hO1 CK KN
      generalize w.heap.size = D at *
      go_wp2_with fail
      go_loopg [24] n (fun g t wr => ∃ (j : Nat) (sv2 : Value), j + g = n ∧ t = .int .i64 j ∧ PutLeft w1 wr b sv sv2 (L ++ modsB false (l.take j)))
      case atStart => exact ⟨0, sv, by omega, rfl, by rw [List.take_zero, modsB, List.append_nil]; exact P1.out⟩
      case round =>
        obtain ⟨j, sv2, hj, rfl, hP⟩ := hrel
        have P := hid hP
        have KR := hid (K1.out.only hP.only DB.out)
        clear hP
        have jb : (j : Int) ≤ 66 := by omega
        have j0 : (0 : Int) ≤ (j : Int) := by omega
        obtain ⟨⟨k0, k1, k2, k3⟩, k4, k5, k6, k7⟩ := KR.out.k0
        by_cases hg : gk = 0
        · obtain rfl : j = n := by omega
          have i1 : ¬ (j : Int) < (j : Int) := by omega
          have e := BB.out
          rw [listB, ← List.append_assoc] at e
          have PE := hid (fun w2 sv3 (k : PutLeft wr w2 b sv2 sv3 ((L ++ modsB false l) ++ ueBits (endN false))) => (show PutLeft w w2 b sv sv3 B by
            rw [e]
            exact (P.out.behind O1.out).trans k))
          have ht : l.take j = l := List.take_of_length_le (by have := N.out; omega)
          have PW := hid (putue_int b sv2 (L ++ modsB false l) (endN false : Nat) (endN false) rfl (by decide) wr (by have := P.out.wr; rw [ht] at this; exact this) (by
            have := modsB_le FA.out
            have := N.out
            have := HL.out
            rw [List.length_append]
            omega))
          rw [show ((endN false : Nat) : Int) = 3 from rfl] at PW
          clear hj hg e ht
          go_wp2_with fail
          refine PW.out.mono ?_
          rintro e w2 ⟨rfl, sv3, hk⟩
          have PF := hid (PE.out _ _ hk)
          clear hk k0 k1 k2 k3 k4 k5 k6 k7
          go_wp2_with fail
          go_ret
          exact ⟨rfl, sv3, PF.out⟩
        · have i1 : (j : Int) < (n : Int) := by omega
          obtain ⟨g, rfl⟩ : ∃ g, gk = g + 1 := ⟨gk - 1, by omega⟩
          obtain ⟨x, X, T1⟩ := take_oneM l j (by have := N.out; omega)
          have ex := FA.out j x X
          obtain ⟨h1, _, _, a0, a1, b0, b1⟩ := errI_ok ex
          obtain ⟨o0, o1, _⟩ := hasI_le h1
          obtain ⟨xb, xo, rfl, hx⟩ := HA1.out.at X
          obtain ⟨hd1, hd2⟩ := HD.out _ _ _ rfl (fun e => by rw [e] at X; simp at X)
          have XD := hid (show xb ∉ b :: ownOf sv by simp; exact ⟨hd1, hd2⟩)
          obtain ⟨x0, x1, x2⟩ := hx.only P.out.only XD.out
          have JG := hid (show j + 1 + g = n by omega)
          have CN := hid (fun w => count_any false x.1 o0 w)
          have LB : (L ++ modsB false (l.take j)).length ≤ 1500000 := by
            have := modsB_le (l := l.take j) (m := false) (fun k y hy => FA.out k y (by
              obtain ⟨q1, q2⟩ := List.getElem?_eq_some_iff.1 hy
              rw [List.length_take] at q1
              rw [← hy, List.getElem?_take, if_pos (by omega)]))
            rw [List.length_take] at this
            have := HL.out
            rw [List.length_append]
            omega
          have BT : L ++ modsB false (l.take (j + 1)) = (L ++ modsB false (l.take j)) ++ modBits false x := by rw [T1, modsB_append, modsB, modsB, List.append_nil, List.append_assoc]
          generalize L ++ modsB false (l.take j) = L1 at *
          have e1 : (x.1.toNat : Int) = x.1 := by omega
          have e2 : (x.2.1.toNat : Int) = x.2.1 := by omega
          have e3 : (x.2.2.toNat : Int) = x.2.2 := by omega
          have u1 := ueBits_le x.1.toNat (by omega)
          have u2 := ueBits_le x.2.1.toNat (by omega)
          have u3 := ueBits_le x.2.2.toNat (by omega)
          have W1 := hid (fun sv l w h hs => putue_int b sv l x.1 x.1.toNat e1.symm (by omega) w h hs)
          have W2 := hid (fun sv l w h hs => putue_int b sv l x.2.1 x.2.1.toNat e2.symm (by omega) w h hs)
          have W3 := hid (fun sv l w h hs => putue_int b sv l x.2.2 x.2.2.toNat e3.symm (by omega) w h hs)
          have HN := hasI_n (m := false) (op := x.1)
          unfold modBits at BT
          simp only [cntI, h1, if_true, kindV, kindC] at CN
          generalize hh : hasI false x.1 = h at *
          obtain ⟨nn, is⟩ := h
          dsimp only at h1 HN BT CN
          subst h1
          generalize ueBits x.1.toNat = c1 at *
          generalize ueBits x.2.1.toNat = c2 at *
          generalize ueBits x.2.2.toNat = c3 at *
          obtain ⟨LL, hLL⟩ : ∃ LL : Nat → List Bool, LL = fun i => L1 ++ c1 ++ ((if 1 ≤ i then c2 else []) ++ (if 2 ≤ i then c3 else [])) := ⟨_, rfl⟩
          have LS := hid (show LL 1 = LL 0 ++ c2 ∧ LL 2 = LL 1 ++ c3 by rw [hLL]; simp)
          have L0 := hid (show LL 0 = L1 ++ c1 by rw [hLL]; simp)
          have UB := hid (show L1.length ≤ 2000000 from by omega)
          have LB := hid (show (LL 0).length ≤ 2000000 ∧ (LL 1).length ≤ 2000000 by rw [hLL]; simp; omega)
          have BT : L ++ modsB false (l.take (j + 1)) = LL nn.toNat := by
            rw [BT, hLL]
            rcases HN with rfl | rfl | rfl <;> simp
          have BT := hid BT
          clear ex e1 e2 e3 u1 u2 u3 hh hj hg hx T1 X hd1 hd2 hLL
          obtain ⟨op, A, B9⟩ := x
          dsimp only at *
          have OA := hid ((Only.refl [] wr).alloc (Obj.cells #[.int .u8 op, .int .i64 A, .int .i64 B9] 37))
          have MM := hid (P.out.wr.not_new (Nat.le_refl _))
          have PA := hid (P.out.only0 OA.out)
          go_wp2_with fail
          refine (W1.out sv2 L1 _ PA.out.wr UB.out).mono ?_
          rintro e w2 ⟨rfl, sv3, hk1⟩
          have P2 := hid (PA.out.trans hk1)
          have m1 := hk1.only.cell (p := ⟨wr.heap.size, 1, none⟩) (v := .int .i64 A) (by simp) MM.out
          have m2 := hk1.only.cell (p := ⟨wr.heap.size, 2, none⟩) (v := .int .i64 B9) (by simp) MM.out
          clear hk1 x0 x1 x2 k0 k1 k2 k3 k4 k5 k6 k7 P KR OA PA MM
          generalize wr.heap.size = MB at *
          have OB := hid ((Only.refl [] w2).alloc (Obj.cells #[.int .i64 A, .int .i64 B9] 196))
          have PB := hid (P2.out.only0 OB.out)
          have EB := hid (P2.out.wr.not_new (Nat.le_refl _))
          have KR := hid (K1.out.only PB.out.only DB.out)
          obtain ⟨⟨k0, k1, k2, k3⟩, k4, k5, k6, k7⟩ := KR.out.k0
          go_wp2_with fail
          refine (CN.out _).mono ?_
          rintro e w3 ⟨rfl, hO3⟩
          have P3 := hid (PB.out.only0 hO3)
          have E3 := hid (⟨hO3.cell (p := ⟨w2.heap.size, 0, none⟩) (v := .int .i64 A) (by simp) (by simp), hO3.cell (p := ⟨w2.heap.size, 1, none⟩) (v := .int .i64 B9) (by simp) (by simp), EB.out⟩ : w3.cell? ⟨w2.heap.size, 0, none⟩ = some (.int .i64 A) ∧ w3.cell? ⟨w2.heap.size, 1, none⟩ = some (.int .i64 B9) ∧ w2.heap.size ∉ b :: ownOf sv3)
          have Q3 := hid (show Wr w3 b sv3 (L1 ++ c1) ∧ LL 0 = L1 ++ c1 from ⟨P3.out.wr, L0.out⟩)
          clear hO3 m1 m2 k0 k1 k2 k3 k4 k5 k6 k7 KR OB PB EB P2 CN W1
          generalize w2.heap.size = EE at *
          rcases HN with rfl | rfl | rfl
          · go_wp2_with fail
            go_loopg [44] 0 (fun g t wr2 => ∃ (i : Nat) (sv4 : Value), i + g = 0 ∧ t = .int .i64 i ∧ PutLeft w3 wr2 b sv3 sv4 (LL i))
            case atStart => exact ⟨0, sv3, by omega, rfl, by rw [Q3.out.2]; exact PutLeft.same Q3.out.1⟩
            case round =>
              obtain ⟨i, sv4, hi, rfl, hQ⟩ := hrel
              have Q := hid hQ
              have d0 := hQ.only.cell E3.out.1 E3.out.2.2
              have d1 := hQ.only.cell E3.out.2.1 E3.out.2.2
              clear hQ
              have hi2 : i = 0 := by omega
              rcases hi2 with rfl
              · obtain rfl : gk = 0 := by omega
                clear hi d0 d1
                have PZ := hid (P3.out.trans Q.out)
                go_wp2_with fail
                go_roundg g
                case measure => omega
                case rel => exact ⟨j + 1, sv4, JG.out, by go_num, by rw [BT.out]; exact PZ.out⟩
          · go_wp2_with fail
            go_loopg [44] 1 (fun g t wr2 => ∃ (i : Nat) (sv4 : Value), i + g = 1 ∧ t = .int .i64 i ∧ PutLeft w3 wr2 b sv3 sv4 (LL i))
            case atStart => exact ⟨0, sv3, by omega, rfl, by rw [Q3.out.2]; exact PutLeft.same Q3.out.1⟩
            case round =>
              obtain ⟨i, sv4, hi, rfl, hQ⟩ := hrel
              have Q := hid hQ
              have d0 := hQ.only.cell E3.out.1 E3.out.2.2
              have d1 := hQ.only.cell E3.out.2.1 E3.out.2.2
              clear hQ
              have hi2 : i = 0 ∨ i = 1 := by omega
              rcases hi2 with rfl | rfl
              · obtain rfl : gk = 1 := by omega
                clear hi
                go_wp2_with fail
                refine (W2.out sv4 (LL 0) _ Q.out.wr (by have := LB.out; omega)).mono ?_
                rintro e w5 ⟨rfl, sv5, hk5⟩
                have Q5 := hid (Q.out.trans hk5)
                clear hk5 d0 d1
                go_wp2_with fail
                go_roundg 0
                case measure => omega
                case rel => exact ⟨1, sv5, by omega, rfl, by rw [LS.out.1]; exact Q5.out⟩
              · obtain rfl : gk = 0 := by omega
                clear hi d0 d1
                have PZ := hid (P3.out.trans Q.out)
                go_wp2_with fail
                go_roundg g
                case measure => omega
                case rel => exact ⟨j + 1, sv4, JG.out, by go_num, by rw [BT.out]; exact PZ.out⟩
          · go_wp2_with fail
            go_loopg [44] 2 (fun g t wr2 => ∃ (i : Nat) (sv4 : Value), i + g = 2 ∧ t = .int .i64 i ∧ PutLeft w3 wr2 b sv3 sv4 (LL i))
            case atStart => exact ⟨0, sv3, by omega, rfl, by rw [Q3.out.2]; exact PutLeft.same Q3.out.1⟩
            case round =>
              obtain ⟨i, sv4, hi, rfl, hQ⟩ := hrel
              have Q := hid hQ
              have d0 := hQ.only.cell E3.out.1 E3.out.2.2
              have d1 := hQ.only.cell E3.out.2.1 E3.out.2.2
              clear hQ
              have hi2 : i = 0 ∨ i = 1 ∨ i = 2 := by omega
              rcases hi2 with rfl | rfl | rfl
              · obtain rfl : gk = 2 := by omega
                clear hi
                go_wp2_with fail
                refine (W2.out sv4 (LL 0) _ Q.out.wr (by have := LB.out; omega)).mono ?_
                rintro e w5 ⟨rfl, sv5, hk5⟩
                have Q5 := hid (Q.out.trans hk5)
                clear hk5 d0 d1
                go_wp2_with fail
                go_roundg 1
                case measure => omega
                case rel => exact ⟨1, sv5, by omega, rfl, by rw [LS.out.1]; exact Q5.out⟩
              · obtain rfl : gk = 1 := by omega
                clear hi
                go_wp2_with fail
                refine (W3.out sv4 (LL 1) _ Q.out.wr (by have := LB.out; omega)).mono ?_
                rintro e w5 ⟨rfl, sv5, hk5⟩
                have Q5 := hid (Q.out.trans hk5)
                clear hk5 d0 d1
                go_wp2_with fail
                go_roundg 0
                case measure => omega
                case rel => exact ⟨2, sv5, by omega, rfl, by rw [LS.out.2]; exact Q5.out⟩
              · obtain rfl : gk = 0 := by omega
                clear hi d0 d1
                have PZ := hid (P3.out.trans Q.out)
                go_wp2_with fail
                go_roundg g
                case measure => omega
                case rel => exact ⟨j + 1, sv4, JG.out, by go_num, by rw [BT.out]; exact PZ.out⟩
    | true =>
      simp only [kindV, kindC] at CK KN ⊢
      go_enter Tryz.func152, Tryz.ntmps152
      go_wp2_with fail
      refine (CK.out _ (HA0.out.only0 KN.out.2)).mono ?_
      rintro e w1 ⟨rfl, hO1⟩
      have O1 := hid (KN.out.2.trans hO1)
      have K1 := hid (KN.out.1.only hO1 (by simp))
      have DB := hid (H.out.not_new (Nat.le_refl _))
      have HA1 := hid (HA.out.only0 O1.out)
      have P1 := hid (PutLeft.same (H.out.only0 O1.out))
      clear hO1 CK KN
      generalize w.heap.size = D at *
      go_wp2_with fail
      go_loopg [24] n (fun g t wr => ∃ (j : Nat) (sv2 : Value), j + g = n ∧ t = .int .i64 j ∧ PutLeft w1 wr b sv sv2 (L ++ modsB true (l.take j)))
      case atStart => exact ⟨0, sv, by omega, rfl, by rw [List.take_zero, modsB, List.append_nil]; exact P1.out⟩
      case round =>
        obtain ⟨j, sv2, hj, rfl, hP⟩ := hrel
        have P := hid hP
        have KR := hid (K1.out.only hP.only DB.out)
        clear hP
        have jb : (j : Int) ≤ 66 := by omega
        have j0 : (0 : Int) ≤ (j : Int) := by omega
        obtain ⟨⟨k0, k1, k2, k3⟩, k4, k5, k6, k7⟩ := KR.out.k1
        by_cases hg : gk = 0
        · obtain rfl : j = n := by omega
          have i1 : ¬ (j : Int) < (j : Int) := by omega
          have e := BB.out
          rw [listB, ← List.append_assoc] at e
          have PE := hid (fun w2 sv3 (k : PutLeft wr w2 b sv2 sv3 ((L ++ modsB true l) ++ ueBits (endN true))) => (show PutLeft w w2 b sv sv3 B by
            rw [e]
            exact (P.out.behind O1.out).trans k))
          have ht : l.take j = l := List.take_of_length_le (by have := N.out; omega)
          have PW := hid (putue_int b sv2 (L ++ modsB true l) (endN true : Nat) (endN true) rfl (by decide) wr (by have := P.out.wr; rw [ht] at this; exact this) (by
            have := modsB_le FA.out
            have := N.out
            have := HL.out
            rw [List.length_append]
            omega))
          rw [show ((endN true : Nat) : Int) = 0 from rfl] at PW
          clear hj hg e ht
          go_wp2_with fail
          refine PW.out.mono ?_
          rintro e w2 ⟨rfl, sv3, hk⟩
          have PF := hid (PE.out _ _ hk)
          clear hk k0 k1 k2 k3 k4 k5 k6 k7
          go_wp2_with fail
          go_ret
          exact ⟨rfl, sv3, PF.out⟩
        · have i1 : (j : Int) < (n : Int) := by omega
          obtain ⟨g, rfl⟩ : ∃ g, gk = g + 1 := ⟨gk - 1, by omega⟩
          obtain ⟨x, X, T1⟩ := take_oneM l j (by have := N.out; omega)
          have ex := FA.out j x X
          obtain ⟨h1, _, _, a0, a1, b0, b1⟩ := errI_ok ex
          obtain ⟨o0, o1, _⟩ := hasI_le h1
          obtain ⟨xb, xo, rfl, hx⟩ := HA1.out.at X
          obtain ⟨hd1, hd2⟩ := HD.out _ _ _ rfl (fun e => by rw [e] at X; simp at X)
          have XD := hid (show xb ∉ b :: ownOf sv by simp; exact ⟨hd1, hd2⟩)
          obtain ⟨x0, x1, x2⟩ := hx.only P.out.only XD.out
          have JG := hid (show j + 1 + g = n by omega)
          have CN := hid (fun w => count_any true x.1 o0 w)
          have LB : (L ++ modsB true (l.take j)).length ≤ 1500000 := by
            have := modsB_le (l := l.take j) (m := true) (fun k y hy => FA.out k y (by
              obtain ⟨q1, q2⟩ := List.getElem?_eq_some_iff.1 hy
              rw [List.length_take] at q1
              rw [← hy, List.getElem?_take, if_pos (by omega)]))
            rw [List.length_take] at this
            have := HL.out
            rw [List.length_append]
            omega
          have BT : L ++ modsB true (l.take (j + 1)) = (L ++ modsB true (l.take j)) ++ modBits true x := by rw [T1, modsB_append, modsB, modsB, List.append_nil, List.append_assoc]
          generalize L ++ modsB true (l.take j) = L1 at *
          have e1 : (x.1.toNat : Int) = x.1 := by omega
          have e2 : (x.2.1.toNat : Int) = x.2.1 := by omega
          have e3 : (x.2.2.toNat : Int) = x.2.2 := by omega
          have u1 := ueBits_le x.1.toNat (by omega)
          have u2 := ueBits_le x.2.1.toNat (by omega)
          have u3 := ueBits_le x.2.2.toNat (by omega)
          have W1 := hid (fun sv l w h hs => putue_int b sv l x.1 x.1.toNat e1.symm (by omega) w h hs)
          have W2 := hid (fun sv l w h hs => putue_int b sv l x.2.1 x.2.1.toNat e2.symm (by omega) w h hs)
          have W3 := hid (fun sv l w h hs => putue_int b sv l x.2.2 x.2.2.toNat e3.symm (by omega) w h hs)
          have HN := hasI_n (m := true) (op := x.1)
          unfold modBits at BT
          simp only [cntI, h1, if_true, kindV, kindC] at CN
          generalize hh : hasI true x.1 = h at *
          obtain ⟨nn, is⟩ := h
          dsimp only at h1 HN BT CN
          subst h1
          generalize ueBits x.1.toNat = c1 at *
          generalize ueBits x.2.1.toNat = c2 at *
          generalize ueBits x.2.2.toNat = c3 at *
          obtain ⟨LL, hLL⟩ : ∃ LL : Nat → List Bool, LL = fun i => L1 ++ c1 ++ ((if 1 ≤ i then c2 else []) ++ (if 2 ≤ i then c3 else [])) := ⟨_, rfl⟩
          have LS := hid (show LL 1 = LL 0 ++ c2 ∧ LL 2 = LL 1 ++ c3 by rw [hLL]; simp)
          have L0 := hid (show LL 0 = L1 ++ c1 by rw [hLL]; simp)
          have UB := hid (show L1.length ≤ 2000000 from by omega)
          have LB := hid (show (LL 0).length ≤ 2000000 ∧ (LL 1).length ≤ 2000000 by rw [hLL]; simp; omega)
          have BT : L ++ modsB true (l.take (j + 1)) = LL nn.toNat := by
            rw [BT, hLL]
            rcases HN with rfl | rfl | rfl <;> simp
          have BT := hid BT
          clear ex e1 e2 e3 u1 u2 u3 hh hj hg hx T1 X hd1 hd2 hLL
          obtain ⟨op, A, B9⟩ := x
          dsimp only at *
          have OA := hid ((Only.refl [] wr).alloc (Obj.cells #[.int .u8 op, .int .i64 A, .int .i64 B9] 37))
          have MM := hid (P.out.wr.not_new (Nat.le_refl _))
          have PA := hid (P.out.only0 OA.out)
          go_wp2_with fail
          refine (W1.out sv2 L1 _ PA.out.wr UB.out).mono ?_
          rintro e w2 ⟨rfl, sv3, hk1⟩
          have P2 := hid (PA.out.trans hk1)
          have m1 := hk1.only.cell (p := ⟨wr.heap.size, 1, none⟩) (v := .int .i64 A) (by simp) MM.out
          have m2 := hk1.only.cell (p := ⟨wr.heap.size, 2, none⟩) (v := .int .i64 B9) (by simp) MM.out
          clear hk1 x0 x1 x2 k0 k1 k2 k3 k4 k5 k6 k7 P KR OA PA MM
          generalize wr.heap.size = MB at *
          have OB := hid ((Only.refl [] w2).alloc (Obj.cells #[.int .i64 A, .int .i64 B9] 196))
          have PB := hid (P2.out.only0 OB.out)
          have EB := hid (P2.out.wr.not_new (Nat.le_refl _))
          have KR := hid (K1.out.only PB.out.only DB.out)
          obtain ⟨⟨k0, k1, k2, k3⟩, k4, k5, k6, k7⟩ := KR.out.k1
          go_wp2_with fail
          refine (CN.out _).mono ?_
          rintro e w3 ⟨rfl, hO3⟩
          have P3 := hid (PB.out.only0 hO3)
          have E3 := hid (⟨hO3.cell (p := ⟨w2.heap.size, 0, none⟩) (v := .int .i64 A) (by simp) (by simp), hO3.cell (p := ⟨w2.heap.size, 1, none⟩) (v := .int .i64 B9) (by simp) (by simp), EB.out⟩ : w3.cell? ⟨w2.heap.size, 0, none⟩ = some (.int .i64 A) ∧ w3.cell? ⟨w2.heap.size, 1, none⟩ = some (.int .i64 B9) ∧ w2.heap.size ∉ b :: ownOf sv3)
          have Q3 := hid (show Wr w3 b sv3 (L1 ++ c1) ∧ LL 0 = L1 ++ c1 from ⟨P3.out.wr, L0.out⟩)
          clear hO3 m1 m2 k0 k1 k2 k3 k4 k5 k6 k7 KR OB PB EB P2 CN W1
          generalize w2.heap.size = EE at *
          rcases HN with rfl | rfl | rfl
          · go_wp2_with fail
            go_loopg [44] 0 (fun g t wr2 => ∃ (i : Nat) (sv4 : Value), i + g = 0 ∧ t = .int .i64 i ∧ PutLeft w3 wr2 b sv3 sv4 (LL i))
            case atStart => exact ⟨0, sv3, by omega, rfl, by rw [Q3.out.2]; exact PutLeft.same Q3.out.1⟩
            case round =>
              obtain ⟨i, sv4, hi, rfl, hQ⟩ := hrel
              have Q := hid hQ
              have d0 := hQ.only.cell E3.out.1 E3.out.2.2
              have d1 := hQ.only.cell E3.out.2.1 E3.out.2.2
              clear hQ
              have hi2 : i = 0 := by omega
              rcases hi2 with rfl
              · obtain rfl : gk = 0 := by omega
                clear hi d0 d1
                have PZ := hid (P3.out.trans Q.out)
                go_wp2_with fail
                go_roundg g
                case measure => omega
                case rel => exact ⟨j + 1, sv4, JG.out, by go_num, by rw [BT.out]; exact PZ.out⟩
          · go_wp2_with fail
            go_loopg [44] 1 (fun g t wr2 => ∃ (i : Nat) (sv4 : Value), i + g = 1 ∧ t = .int .i64 i ∧ PutLeft w3 wr2 b sv3 sv4 (LL i))
            case atStart => exact ⟨0, sv3, by omega, rfl, by rw [Q3.out.2]; exact PutLeft.same Q3.out.1⟩
            case round =>
              obtain ⟨i, sv4, hi, rfl, hQ⟩ := hrel
              have Q := hid hQ
              have d0 := hQ.only.cell E3.out.1 E3.out.2.2
              have d1 := hQ.only.cell E3.out.2.1 E3.out.2.2
              clear hQ
              have hi2 : i = 0 ∨ i = 1 := by omega
              rcases hi2 with rfl | rfl
              · obtain rfl : gk = 1 := by omega
                clear hi
                go_wp2_with fail
                refine (W2.out sv4 (LL 0) _ Q.out.wr (by have := LB.out; omega)).mono ?_
                rintro e w5 ⟨rfl, sv5, hk5⟩
                have Q5 := hid (Q.out.trans hk5)
                clear hk5 d0 d1
                go_wp2_with fail
                go_roundg 0
                case measure => omega
                case rel => exact ⟨1, sv5, by omega, rfl, by rw [LS.out.1]; exact Q5.out⟩
              · obtain rfl : gk = 0 := by omega
                clear hi d0 d1
                have PZ := hid (P3.out.trans Q.out)
                go_wp2_with fail
                go_roundg g
                case measure => omega
                case rel => exact ⟨j + 1, sv4, JG.out, by go_num, by rw [BT.out]; exact PZ.out⟩
          · go_wp2_with fail
            go_loopg [44] 2 (fun g t wr2 => ∃ (i : Nat) (sv4 : Value), i + g = 2 ∧ t = .int .i64 i ∧ PutLeft w3 wr2 b sv3 sv4 (LL i))
            case atStart => exact ⟨0, sv3, by omega, rfl, by rw [Q3.out.2]; exact PutLeft.same Q3.out.1⟩
            case round =>
              obtain ⟨i, sv4, hi, rfl, hQ⟩ := hrel
              have Q := hid hQ
              have d0 := hQ.only.cell E3.out.1 E3.out.2.2
              have d1 := hQ.only.cell E3.out.2.1 E3.out.2.2
              clear hQ
              have hi2 : i = 0 ∨ i = 1 ∨ i = 2 := by omega
              rcases hi2 with rfl | rfl | rfl
              · obtain rfl : gk = 2 := by omega
                clear hi
                go_wp2_with fail
                refine (W2.out sv4 (LL 0) _ Q.out.wr (by have := LB.out; omega)).mono ?_
                rintro e w5 ⟨rfl, sv5, hk5⟩
                have Q5 := hid (Q.out.trans hk5)
                clear hk5 d0 d1
                go_wp2_with fail
                go_roundg 1
                case measure => omega
                case rel => exact ⟨1, sv5, by omega, rfl, by rw [LS.out.1]; exact Q5.out⟩
              · obtain rfl : gk = 1 := by omega
                clear hi
                go_wp2_with fail
                refine (W3.out sv4 (LL 1) _ Q.out.wr (by have := LB.out; omega)).mono ?_
                rintro e w5 ⟨rfl, sv5, hk5⟩
                have Q5 := hid (Q.out.trans hk5)
                clear hk5 d0 d1
                go_wp2_with fail
                go_roundg 0
                case measure => omega
                case rel => exact ⟨2, sv5, by omega, rfl, by rw [LS.out.2]; exact Q5.out⟩
              · obtain rfl : gk = 0 := by omega
                clear hi d0 d1
                have PZ := hid (P3.out.trans Q.out)
                go_wp2_with fail
                go_roundg g
                case measure => omega
                case rel => exact ⟨j + 1, sv4, JG.out, by go_num, by rw [BT.out]; exact PZ.out⟩
  · have e : putI m L l = (checkI m l, L) := by unfold putI; rw [if_pos hc]
    rw [e]
    generalize checkI m l = k at *
    have KE := hid (show k ≠ 0 from hc)
    clear h hk hd hL e hc
    cases m
    all_goals
      simp only [kindV, kindC] at CK KN ⊢
      go_enter Tryz.func152, Tryz.ntmps152
      go_wp2_with fail
      refine (CK.out _ (HA.out.only0 KN.out.2)).mono ?_
      rintro e w1 ⟨rfl, hO1⟩
      have O1 := hid (KN.out.2.trans hO1)
      have hk := KE.out
      clear hO1 CK
      go_wp2_with fail
      go_ret
      exact ⟨rfl, sv, H.out.only0 O1.out, fun g hg => .inl hg, O1.out.mono (by simp)⟩
end Go.Proofs.YtjjjfmnhdnajkaaGreatDoor

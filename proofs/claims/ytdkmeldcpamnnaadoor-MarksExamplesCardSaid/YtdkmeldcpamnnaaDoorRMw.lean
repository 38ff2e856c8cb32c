/- The reference's Put. -/
import Derived.Test.YtdkmeldcpamnnaaDoorRMc
import Derived.Test.YtdkmeldcpamnnaaDoorRw
namespace Go.Proofs.YtdkmeldcpamnnaaDoor
open Go.RowKit
set_option linter.unusedVariables false

theorem firstE_at {m : Bool} {l : List (Int × Int × Int)} (h : firstE m l = 0) : ∀ (j : Nat) x, l[j]? = some x → errI m x = 0 := by
  induction l with
  | nil => intro j x hx; simp at hx
  | cons y l ih =>
    obtain ⟨h1, h2⟩ := firstE_cons h
    intro j x hx
    cases j with
    | zero => simp at hx; subst hx; exact h1
    | succ j => simp at hx; exact ih h2 j x hx
theorem modsB_append (m : Bool) (a b : List (Int × Int × Int)) : modsB m (a ++ b) = modsB m a ++ modsB m b := by
  induction a with
  | nil => rfl
  | cons x a ih => rw [List.cons_append, modsB, modsB, ih, List.append_assoc]
theorem modBits_le {m : Bool} {x : Int × Int × Int} (h : errI m x = 0) : (modBits m x).length ≤ 189 := by
  obtain ⟨h1, _, _, a, b, c, d⟩ := errI_ok h
  obtain ⟨o1, o2, _⟩ := hasI_le h1
  have u1 := ueBits_le x.1.toNat (by omega)
  have u2 := ueBits_le x.2.1.toNat (by omega)
  have u3 := ueBits_le x.2.2.toNat (by omega)
  unfold modBits
  rw [List.length_append, List.length_append]
  split <;> split <;> simp <;> omega
theorem modsB_le {m : Bool} {l : List (Int × Int × Int)} (h : ∀ (j : Nat) x, l[j]? = some x → errI m x = 0) : (modsB m l).length ≤ 189 * l.length := by
  induction l with
  | nil => simp [modsB]
  | cons y l ih =>
    have h1 := modBits_le (h 0 y (by simp))
    have h2 := ih (fun j x hx => h (j + 1) x (by simpa using hx))
    rw [modsB, List.length_append, List.length_cons]
    omega
theorem rputue_int (b : Nat) (sv : Value) (l : List Bool) (V : Int) (v : Nat) (hV : V = v) (hv : v ≤ 4294967294) (w : World) (h : RWr w b sv l) (hsz : l.length ≤ 2000000) :
    Calls Tryd.prog 39 #[.pointer (some ⟨b, 0, none⟩), .int .u64 V] w fun e w' => e = .returned (.int .i64 0) ∧ ∃ sv', RPut w w' b sv sv' (l ++ ueBits v) := by
  have := rputue_any b sv l v w h (by omega)
  rw [show wrUe l v = (0, l ++ ueBits v) from by unfold wrUe; rw [if_neg (by omega)]] at this
  exact hV ▸ this
/-- The block of a slice that comes in is none of a writer's. -/
def Aside (a : Value) (l : List (Int × Int × Int)) (b : Nat) (sv : Value) : Prop := ∀ ad n c, a = .slice (some ad) n c → l ≠ [] → ad.block ≠ b ∧ ad.block ∉ ownOf sv
theorem HoldsM.lt {w : World} {ad : Addr} {n c : Nat} {l : List (Int × Int × Int)} (h : HoldsM w (.slice (some ad) n c) l) (hl : l ≠ []) : ad.block < w.heap.size := by
  obtain ⟨a2, c2, e, _, _, h3⟩ := h
  cases e
  rcases h3 with h3 | ⟨b, o, e, hc⟩
  · exact absurd h3 hl
  · cases e
    exact World.block_lt_of_cell? _ _ (hc 0 _ (List.getElem?_eq_getElem (List.length_pos_iff.2 hl))).c0
/-- A writer that was made behind the slice. -/
theorem aside_fresh {w : World} {a : Value} {l : List (Int × Int × Int)} {b : Nat} {sv : Value} (h : HoldsM w a l) (hb : w.heap.size ≤ b) (ho : ∀ g, g ∈ ownOf sv → w.heap.size ≤ g) : Aside a l b sv := by
  rintro ad n c rfl hl
  have := h.lt hl
  exact ⟨by omega, fun e => by have := ho _ e; omega⟩
/-- .. and what only the writer's blocks have changed. -/
theorem HoldsM.aside {S : List Nat} {w w' : World} {a : Value} {l : List (Int × Int × Int)} (h : HoldsM w a l) (k : Only S w w') (hS : ∀ x, x ∈ S → w.heap.size ≤ x) : HoldsM w' a l := by
  by_cases e : l = []
  · obtain ⟨a2, c2, rfl, h1, h2, h3⟩ := h
    exact ⟨a2, c2, rfl, h1, h2, .inl e⟩
  · exact h.only k (fun ad n c he hx => by subst he; have := h.lt e; have := hS _ hx; omega)

set_option maxRecDepth 100000 in
set_option maxHeartbeats 8000000 in
theorem rput9_any (m : Bool) (b : Nat) (sv : Value) (L : List Bool) (a : Value) (l : List (Int × Int × Int)) (w : World) (h : RWr w b sv L) (ha : HoldsM w a l) (hk : OksM l) (hd : Aside a l b sv) (hL : L.length ≤ 1000000) :
    Calls Tryd.prog 17 #[.pointer (some ⟨b, 0, none⟩), .bool m, a] w fun e w' => e = .returned (.int .i64 (putI m L l).1) ∧ ∃ sv', RPut w w' b sv sv' (putI m L l).2 := by
  have H := hid h
  have HA := hid ha
  have HD := hid hd
  have CK := hid (rcheck_any m a l w ha hk)
  obtain ⟨a, c, rfl, _⟩ := ha
  by_cases hc : checkI m l = 0
  · have hn : l.length ≤ 66 := by
      unfold checkI at hc
      split at hc
      · cases hc
      · omega
    have hf : firstE m l = 0 := by
      unfold checkI at hc
      split at hc
      · cases hc
      · exact hc
    have FA := hid (firstE_at hf)
    have e : putI m L l = (0, L ++ listB m l) := by unfold putI; rw [if_neg (fun x => x hc)]
    rw [e]
    rw [hc] at CK
    obtain ⟨B, hB⟩ : ∃ B, B = L ++ listB m l := ⟨_, rfl⟩
    rw [← hB]
    have BB := hid hB
    have EN := hid (fun w => rend9_any m w)
    obtain ⟨n, hn'⟩ : ∃ n, n = l.length := ⟨_, rfl⟩
    have N := hid hn'
    have HL := hid hL
    rw [← hn'] at hn CK ⊢
    have nb : (n : Int) ≤ 66 := by omega
    clear h hk hd hL hc hf e hB hn' hn
    go_enter Tryd.func17, Tryd.ntmps17
    go_wp2_with fail
    refine CK.out.mono ?_
    rintro e w1 ⟨rfl, hO1⟩
    have O1 := hid hO1
    have HL0 := hid (H.out.lt)
    have P1 := hid (show RPut w1 w1 b sv sv L from RPut.same (H.out.only hO1 (by simp) (by simp)))
    have HA1 := hid (HA.out.only0 hO1)
    clear hO1 CK
    go_wp2_with fail
    go_loopg [8] n (fun g t wr => ∃ (j : Nat) (sv2 : Value), j + g = n ∧ t = .int .i64 j ∧ RPut w1 wr b sv sv2 (L ++ modsB m (l.take j)))
    case atStart => exact ⟨0, sv, by omega, rfl, by rw [List.take_zero, modsB, List.append_nil]; exact P1.out⟩
    case round =>
      obtain ⟨j, sv2, hj, rfl, hP⟩ := hrel
      have P := hid hP
      clear hP
      have jb : (j : Int) ≤ 66 := by omega
      have j0 : (0 : Int) ≤ (j : Int) := by omega
      by_cases hg : gk = 0
      · obtain rfl : j = n := by omega
        have i1 : ¬ (j : Int) < (j : Int) := by omega
        have e := BB.out
        rw [listB, ← List.append_assoc] at e
        have PE := hid (fun w2 sv3 (k : RPut wr w2 b sv2 sv3 ((L ++ modsB m l) ++ ueBits (endN m))) => (show RPut w w2 b sv sv3 B by
          rw [e]
          exact (RPut.same H.out |>.trans ⟨P1.out.wr, fun g hg => .inl hg, O1.out.mono (by simp)⟩).trans (P.out.trans k)))
        have ht : l.take j = l := List.take_of_length_le (by have := N.out; omega)
        have PW := hid (rputue_int b sv2 (L ++ modsB m l) (endN m : Nat) (endN m) rfl (by unfold endN; split <;> omega) wr (by have := P.out.wr; rw [ht] at this; exact this) (by
          have := modsB_le FA.out
          have := N.out
          have := HL.out
          rw [List.length_append]
          omega))
        have en0 : (0 : Int) ≤ (endN m : Nat) := by omega
        have en1 : ((endN m : Nat) : Int) ≤ 3 := by unfold endN; split <;> omega
        clear hj hg e ht
        generalize endN m = en at *
        go_wp2_with fail
        refine (EN.out _).mono ?_
        rintro e w2 ⟨rfl, rfl⟩
        go_wp2_with fail
        refine PW.out.mono ?_
        rintro e w2 ⟨rfl, sv3, hk⟩
        go_wp2_with fail
        go_ret
        exact ⟨rfl, sv3, PE.out _ _ hk⟩
      · have i1 : (j : Int) < (n : Int) := by omega
        obtain ⟨g, rfl⟩ : ∃ g, gk = g + 1 := ⟨gk - 1, by omega⟩
        obtain ⟨x, X, T1⟩ := take_oneM l j (by have := N.out; omega)
        have ex := FA.out j x X
        obtain ⟨h1, _, _, a0, a1, b0, b1⟩ := errI_ok ex
        obtain ⟨o0, o1, _⟩ := hasI_le h1
        obtain ⟨xb, xo, rfl, hx⟩ := HA1.out.at X
        obtain ⟨hd1, hd2⟩ := HD.out _ _ _ rfl (fun e => by rw [e] at X; simp at X)
        have XD := hid (show xb ∉ b :: ownOf sv by simp; exact ⟨hd1, hd2⟩)
        have HX := hid hx
        obtain ⟨x0, x1, x2⟩ := hx.only P.out.only XD.out
        have JG := hid (show j + 1 + g = n by omega)
        have HS := hid (fun w => rhas_any m x.1 w)
        have LB : (L ++ modsB m (l.take j)).length ≤ 1500000 := by
          have := modsB_le (l := l.take j) (m := m) (fun k y hy => FA.out k y (by
            obtain ⟨q1, q2⟩ := List.getElem?_eq_some_iff.1 hy
            rw [List.length_take] at q1
            rw [← hy, List.getElem?_take, if_pos (by omega)]))
          rw [List.length_take] at this
          have := HL.out
          rw [List.length_append]
          omega
        have BT : L ++ modsB m (l.take (j + 1)) = (L ++ modsB m (l.take j)) ++ modBits m x := by rw [T1, modsB_append, modsB, modsB, List.append_nil, List.append_assoc]
        generalize L ++ modsB m (l.take j) = L1 at *
        have e1 : (x.1.toNat : Int) = x.1 := by omega
        have e2 : (x.2.1.toNat : Int) = x.2.1 := by omega
        have e3 : (x.2.2.toNat : Int) = x.2.2 := by omega
        have u1 := ueBits_le x.1.toNat (by omega)
        have u2 := ueBits_le x.2.1.toNat (by omega)
        have u3 := ueBits_le x.2.2.toNat (by omega)
        have W1 := hid (fun sv l w h hs => rputue_int b sv l x.1 x.1.toNat e1.symm (by omega) w h hs)
        have W2 := hid (fun sv l w h hs => rputue_int b sv l x.2.1 x.2.1.toNat e2.symm (by omega) w h hs)
        have W3 := hid (fun sv l w h hs => rputue_int b sv l x.2.2 x.2.2.toNat e3.symm (by omega) w h hs)
        have HN := hasI_n (m := m) (op := x.1)
        unfold modBits at BT
        have UB := hid (And.intro LB (And.intro u1 (And.intro u2 u3)))
        generalize hh : hasI m x.1 = h at *
        obtain ⟨nn, is⟩ := h
        dsimp only at h1 HN BT
        subst h1
        have BT := hid BT
        generalize ueBits x.1.toNat = c1 at *
        generalize ueBits x.2.1.toNat = c2 at *
        generalize ueBits x.2.2.toNat = c3 at *
        clear ex e1 e2 e3 u1 u2 u3 LB hh hj hg hx T1 X hd1 hd2
        obtain ⟨op, A, B9⟩ := x
        dsimp only at *
        go_wp2_with fail
        refine (HS.out _).mono ?_
        rintro e w2 ⟨rfl, rfl⟩
        clear HS
        go_wp2_with fail
        refine (W1.out sv2 L1 wr P.out.wr (by have := UB.out; omega)).mono ?_
        rintro e w2 ⟨rfl, sv3, hk1⟩
        have P2 := hid (P.out.trans hk1)
        clear hk1 x0 x1 x2 P
        obtain ⟨x0, x1, x2⟩ := HX.out.only P2.out.only XD.out
        dsimp only at x0 x1 x2
        rcases HN with rfl | rfl | rfl
        · go_wp2_with fail
          go_roundg g
          case measure => omega
          case rel => exact ⟨j + 1, sv3, JG.out, by go_num, by rw [BT.out]; simpa using P2.out⟩
        · go_wp2_with fail
          refine (W2.out sv3 (L1 ++ c1) w2 P2.out.wr (by have := UB.out; rw [List.length_append]; omega)).mono ?_
          rintro e w3 ⟨rfl, sv4, hk2⟩
          have P3 := hid (P2.out.trans hk2)
          clear hk2 x0 x1 x2 P2
          obtain ⟨x0, x1, x2⟩ := HX.out.only P3.out.only XD.out
          dsimp only at x0 x1 x2
          go_wp2_with fail
          go_roundg g
          case measure => omega
          case rel => exact ⟨j + 1, sv4, JG.out, by go_num, by rw [BT.out]; simpa using P3.out⟩
        · go_wp2_with fail
          refine (W2.out sv3 (L1 ++ c1) w2 P2.out.wr (by have := UB.out; rw [List.length_append]; omega)).mono ?_
          rintro e w3 ⟨rfl, sv4, hk2⟩
          have P3 := hid (P2.out.trans hk2)
          clear hk2 x0 x1 x2 P2
          obtain ⟨x0, x1, x2⟩ := HX.out.only P3.out.only XD.out
          dsimp only at x0 x1 x2
          go_wp2_with fail
          refine (W3.out sv4 (L1 ++ c1 ++ c2) w3 P3.out.wr (by have := UB.out; rw [List.length_append, List.length_append]; omega)).mono ?_
          rintro e w4 ⟨rfl, sv5, hk3⟩
          have P4 := hid (P3.out.trans hk3)
          clear hk3 x0 x1 x2 P3
          go_wp2_with fail
          go_roundg g
          case measure => omega
          case rel => exact ⟨j + 1, sv5, JG.out, by go_num, by rw [BT.out]; simpa using P4.out⟩
  · have e : putI m L l = (checkI m l, L) := by unfold putI; rw [if_pos hc]
    rw [e]
    generalize checkI m l = k at *
    clear h hk hd hL e
    go_enter Tryd.func17, Tryd.ntmps17
    go_wp2_with fail
    refine CK.out.mono ?_
    rintro e w1 ⟨rfl, hO1⟩
    have O1 := hid hO1
    clear hO1 CK
    go_wp2_with fail
    go_ret
    exact ⟨rfl, sv, H.out.only O1.out (by simp) (by simp), fun g hg => .inl hg, O1.out.mono (by simp)⟩
end Go.Proofs.YtdkmeldcpamnnaaDoor

/- AnnexbCanonical: the walk. -/
import Derived.Test.YtfigmjlnjaihnaaKnown4
import Derived.Test.YtfigmjlnjaihnaaLMay
import Derived.ProofKit
import Derived.OpenShut
import Derived.ShutString
import Derived.ChangeOld
namespace Go.Proofs.Ytfigmjlnjaihnaa
open Go.RowKit
open Go.ChangeMaps (open_string shut_string)
set_option linter.unusedVariables false

theorem bare_length (us : List ByteArray) : us.length ≤ bare us := by
  induction us with
  | nil => exact Nat.le_refl _
  | cons u us ih => simp only [bare, List.map_cons, List.sum_cons, List.length_cons] at *; omega
theorem bare_snoc (us : List ByteArray) (u : ByteArray) : bare (us ++ [u]) = bare us + 3 + u.size := by
  unfold bare; simp; omega
theorem split_cases (s : ByteArray) (h : s.size ≤ 3000) : splitR s = ([], 4) ∨ ∃ us, splitR s = (us, 0) ∧ mayAll us = true ∧ bare us ≤ s.size ∧ us.length ≤ 3000 := by
  cases hp : parse s.data.toList with
  | none => exact .inl (splitR_none (by omega) hp)
  | some l =>
    obtain ⟨a, b⟩ := (parse_spec _ _).1 hp
    have e : datas (l.map strOf) = l := by
      unfold datas
      rw [List.map_map]
      conv => rhs; rw [← List.map_id l]
      exact List.map_congr_left (fun x _ => rfl)
    have b1 := stream_len (l.map strOf) s.data.toList (by rw [e]; exact b)
    have b2 := bare_length (l.map strOf)
    have b3 : s.data.toList.length = s.size := by simp
    have ma : mayAll (l.map strOf) = true := List.all_eq_true.2 (fun u hu => by
      obtain ⟨x, hx, rfl⟩ := List.mem_map.1 hu
      exact (mayB_iff _).2 (a x hx))
    exact .inr ⟨l.map strOf, split_of _ s ma (by rw [e]; exact b) (by omega) (by omega), ma, by omega, by omega⟩
theorem unit_small {us : List ByteArray} {j : Nat} {u : ByteArray} (h : us[j]? = some u) : u.size ≤ bare us := by
  induction us generalizing j with
  | nil => simp at h
  | cons v us ih =>
    cases j with
    | zero => simp at h; subst h; simp only [bare, List.map_cons, List.sum_cons]; omega
    | succ j =>
      have := ih (j := j) (by simpa using h)
      simp only [bare, List.map_cons, List.sum_cons] at *
      omega
theorem bare_take (us : List ByteArray) : ∀ j, bare (us.take j) ≤ bare us := by
  induction us with
  | nil => intro j; simp [bare]
  | cons u us ih =>
    intro j
    cases j with
    | zero => simp [bare]
    | succ j =>
      have := ih j
      simp only [List.take_succ_cons, bare, List.map_cons, List.sum_cons] at *
      omega
set_option maxRecDepth 100000 in
set_option maxHeartbeats 8000000 in
theorem canonical_walk (s : ByteArray) (W : World) (hM : MaxL W) (hm0 : s.size ≤ maxLen) : Calls Try.prog 8 #[.string s] W fun e w' => e = .returned (.bool true) ∧ Only [] W w' := by
  have KN := hid (fun w (o : Only [] W w) => known_any w (hM.only0 o))
  have hm' : (s.size : Int) ≤ 9223372036854775807 := by unfold maxLen at hm0; omega
  clear hm0
  by_cases hm : 2000 < s.size
  · have i1 : (2000 : Int) < (s.size : Int) := by omega
    clear hm
    go_enter Try.func8, Try.ntmps8
    go_wp2_with fail
    refine (KN.out _ (Only.refl _ _)).mono ?_
    rintro e w1 ⟨rfl, ho⟩
    have O := hid ho
    clear ho
    go_wp2_with fail
    go_ret
    exact ⟨rfl, O.out⟩
  · have i1 : ¬ (2000 : Int) < (s.size : Int) := by omega
    have C1 := hid (fun w (o : Only [] W w) => split_any s w (hM.only0 o) (by omega))
    rcases split_cases s (by omega) with h4 | ⟨us, h0, hma, hba, hln⟩
    · rw [h4] at C1
      clear hm h4
      go_enter Try.func8, Try.ntmps8
      go_wp2_with fail
      refine (C1.out _ (Only.refl _ _)).mono ?_
      rintro e w1 ⟨sv, rfl, hh, ho⟩
      obtain ⟨a, c, rfl, hc⟩ := hh
      have O1 := hid ho
      clear ho hc
      go_wp2_with fail
      refine (KN.out _ O1.out).mono ?_
      rintro e w2 ⟨rfl, ho⟩
      have O := hid (O1.out.trans ho)
      clear ho
      go_wp2_with fail
      go_ret
      exact ⟨rfl, O.out⟩
    · rw [h0] at C1
      have jl := join_len us true
      have J1 := join_of us hma (by omega) (by omega)
      have B1 := back_of us hma (by omega) (by omega)
      have sz : (strOf (joinF true us)).size = (joinF true us).length := strOf_size _
      generalize strOf (joinF true us) = t at *
      obtain ⟨m, hm2⟩ : ∃ m, m = bare us := ⟨_, rfl⟩
      obtain ⟨n, hn⟩ : ∃ n, n = us.length := ⟨_, rfl⟩
      have US := hid (fun (j : Nat) (u : ByteArray) (h : us[j]? = some u) => (show u.size ≤ 100000000 from by have := unit_small h; omega))
      have MA := hid (fun (j : Nat) (u : ByteArray) (h : us[j]? = some u) => mayAll_at hma h)
      rw [← hm2] at jl hba
      rw [← hn] at jl hln
      have t1 : (m : Int) ≤ (t.size : Int) := by omega
      have t2 : (t.size : Int) ≤ (m : Int) + (n : Int) := by omega
      have t3 : (m : Int) ≤ (s.size : Int) := by omega
      have t4 : (s.size : Int) ≤ 2000 := by omega
      have t5 : (n : Int) ≤ 3000 := by omega
      have ts : t.size ≤ 100000000 := by omega
      have HM := hid hm2
      have HN := hid hn
      have l1 : us.length ≤ 1000000 := by omega
      have L1 := hid l1
      have C2 := hid (fun (v : Value) (w : World) (o : Only [] W w) (h : Holds w v us) => join_any v us w (hM.only0 o) h L1.out US.out)
      rw [J1] at C2
      have C3 := hid (fun w (o : Only [] W w) => split_any t w (hM.only0 o) ts)
      rw [B1] at C3
      clear hm h0 hma hba hln jl J1 B1 sz hm2 hn l1
      go_enter Try.func8, Try.ntmps8
      go_wp2_with fail
      refine (C1.out _ (Only.refl _ _)).mono ?_
      rintro e w1 ⟨sv, rfl, hh, ho⟩
      have H1 := hid hh
      obtain ⟨a, c, rfl, HA⟩ := hh
      have HA := hid HA
      have O1 := hid ho
      clear ho
      rw [← HN.out]
      go_wp2_with fail
      go_loopg [5, 6] n (fun g q t wr => ∃ j : Nat, j + g = n ∧ t = .int .i64 j ∧ q = .int .i64 (bare (us.take j)) ∧ wr = w1)
      case atStart => exact ⟨0, by omega, rfl, rfl, rfl⟩
      case round =>
        obtain ⟨j, hj, rfl, rfl, hw⟩ := hrel
        obtain rfl : w1 = wr := hw.symm
        have J := hid hj
        have jb : (j : Int) ≤ 3000 := by omega
        have j0 : (0 : Int) ≤ (j : Int) := by omega
        have bt := bare_take us j
        rw [← HM.out] at bt
        by_cases hg : gk = 0
        · obtain rfl : j = n := by omega
          have j1 : ¬ (j : Int) < (j : Int) := by omega
          rw [List.take_of_length_le (by have := HN.out; omega), ← HM.out]
          have g1 : ¬ (s.size : Int) < (m : Int) := by omega
          have g2 : ¬ (t.size : Int) < (m : Int) := by omega
          have g3 : ¬ (m : Int) + (j : Int) < (t.size : Int) := by omega
          clear hj hg bt
          go_wp2_with fail
          refine (C2.out _ _ O1.out (by rw [HN.out]; exact H1.out)).mono ?_
          rintro e w2 ⟨rfl, ho⟩
          have O2 := hid (O1.out.trans ho)
          have H2 := hid (H1.out.only ho (by simp))
          clear ho
          go_wp2_with fail
          refine (C3.out _ O2.out).mono ?_
          rintro e w3 ⟨sv3, rfl, hh, ho⟩
          have O3 := hid (O2.out.trans ho)
          have H3 := hid hh
          have H4 := hid (H2.out.only ho (by simp))
          clear ho hh
          go_wp2_with fail
          refine (eqs_any _ _ _ _ _ (by rw [HN.out]; exact H4.out) H3.out L1.out L1.out).mono ?_
          rintro e w4 ⟨rfl, ho⟩
          have O4 := hid (O3.out.trans ho)
          have H5 := hid (H3.out.only ho (by simp))
          have ED : decide (us = us) = true := decide_eq_true rfl
          clear ho
          rw [ED]
          clear ED
          go_wp2_with fail
          refine (C2.out _ _ O4.out H5.out).mono ?_
          rintro e w5 ⟨rfl, ho⟩
          have O5 := hid (O4.out.trans ho)
          clear ho
          go_wp2_with fail
          refine (KN.out _ O5.out).mono ?_
          rintro e w6 ⟨rfl, ho⟩
          have O6 := hid (O5.out.trans ho)
          clear ho
          go_wp2_with fail
          go_ret
          exact ⟨rfl, O6.out⟩
        · have j1 : (j : Int) < (n : Int) := by omega
          obtain ⟨g, rfl⟩ : ∃ g, gk = g + 1 := ⟨gk - 1, by omega⟩
          have jl : j < us.length := by have := HN.out; omega
          obtain ⟨u, hls⟩ : ∃ u, us[j]? = some u := ⟨us[j]'jl, List.getElem?_eq_getElem _⟩
          obtain ⟨ad, rfl, hx⟩ := HA.out j u hls
          have TS : us.take (j + 1) = us.take j ++ [u] := by
            obtain ⟨hj', rfl⟩ := List.getElem?_eq_some_iff.1 hls
            exact List.take_succ_eq_append_getElem hj'
          have bt2 := bare_take us (j + 1)
          rw [TS, bare_snoc, ← HM.out] at bt2
          have BS := hid (bare_snoc (us.take j) u)
          rw [← TS] at BS
          obtain ⟨q, hq⟩ : ∃ q, q = bare (us.take j) := ⟨_, rfl⟩
          rw [← hq] at bt bt2 BS ⊢
          have q1 : (q : Int) + 3 + (u.size : Int) ≤ 2000 := by omega
          have q0 : (0 : Int) ≤ (q : Int) := by omega
          have u0 : (0 : Int) ≤ (u.size : Int) := by omega
          have MY := hid (fun w => lmay_any u w (US.out j u hls))
          rw [MA.out j u hls] at MY
          clear hj hg hls jl TS bt bt2 hq
          go_wp2_with fail
          refine (MY.out _).mono ?_
          rintro e w' ⟨rfl, rfl⟩
          go_wp2_with fail
          go_roundg g
          case measure => omega
          case rel => exact ⟨j + 1, by have := J.out; omega, by go_num, by rw [BS.out]; go_num, rfl⟩
open Go.ChangeShapes Go.WideShapes Go.ChangeAt
theorem annexbCanonical_core {H : Type} {enc : TypeId × Value → H} (W : World) (hM : MaxL W) (base : Nat)
    (v0 : Value) (d0 : DataW H) (p0 : List MemPlace) (k0 : Value.okWide Try.prog W .any base 9 v0) (h0 : DataW.Trod enc Try.prog W 0 (fun _ => true) true 9 v0 d0 p0) :
    Calls Try.prog 8 #[v0] W fun e w' => e = .returned (.bool true) ∧ Below W.heap.size W w' := by
  obtain ⟨s, rfl, rfl, rfl, w0⟩ := open_string Try.underlying9 k0 h0
  exact (canonical_walk s W hM w0).mono fun e w' ⟨he, ho⟩ => ⟨he, ho.below (Nat.le_refl _) (by simp)⟩
end Go.Proofs.Ytfigmjlnjaihnaa

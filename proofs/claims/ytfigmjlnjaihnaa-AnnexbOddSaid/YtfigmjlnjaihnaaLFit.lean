/- The statements' own fit and fits. -/
import Derived.Test.YtfigmjlnjaihnaaBuf
import Derived.Test.YtfigmjlnjaihnaaSs
namespace Go.Proofs.Ytfigmjlnjaihnaa
open Go.RowKit
set_option linter.unusedVariables false

theorem fix_bad (bs : List UInt8) (j : Nat) (hj : j + 2 < bs.length) (hn : ∀ k, k < j → ¬ Bad bs k) : ∀ k, k < j + 1 → ¬ Bad (bs.set (j + 2) 7) k := by
  intro k hk h
  by_cases e : k = j
  · subst e
    obtain ⟨x, hx, hl⟩ := h.2.2
    rw [List.getElem?_set_self hj] at hx
    cases hx
    exact absurd hl (by decide)
  · refine hn k (by omega) ⟨?_, ?_, ?_⟩
    · have := h.1; rwa [List.getElem?_set_ne (by omega)] at this
    · have := h.2.1; rwa [List.getElem?_set_ne (by omega)] at this
    · obtain ⟨x, hx, hl⟩ := h.2.2
      rw [List.getElem?_set_ne (by omega)] at hx
      exact ⟨x, hx, hl⟩
theorem may_nine (bs : List UInt8) (hn : ∀ k, k + 2 < bs.length → ¬ Bad bs k) : mayB (bs ++ [9]) = true := by
  refine (mayB_iff _).2 ⟨by simp, by simp, fun k h => ?_⟩
  obtain ⟨x, hx, hl⟩ := h.2.2
  have h3 := (List.getElem?_eq_some_iff.1 hx).1
  rw [List.length_append, List.length_singleton] at h3
  by_cases e : k + 2 = bs.length
  · rw [e, List.getElem?_concat_length] at hx
    cases hx
    exact absurd hl (by decide)
  · refine hn k (by omega) ⟨?_, ?_, x, ?_, hl⟩
    · have := h.1; rwa [List.getElem?_append_left (by omega)] at this
    · have := h.2.1; rwa [List.getElem?_append_left (by omega)] at this
    · rwa [List.getElem?_append_left (by omega)] at hx

set_option maxHeartbeats 4000000 in
theorem fit_any (s : ByteArray) (w : World) (hs : s.size ≤ 100000) :
    Calls Try.prog 32 #[.string s] w fun e w' => ∃ u, e = .returned (.string u) ∧ mayB u.data.toList = true ∧ u.size = s.size + 1 ∧ Only [] w w' := by
  obtain ⟨c, wb, hconv, hbuf, hob⟩ := conv_buf s w
  have B0 := hid hbuf
  have O0 := hid hob
  clear hbuf hob
  have nb : (s.size : Int) ≤ 100000 := by omega
  obtain ⟨B, hB⟩ : ∃ B, B = w.heap.size := ⟨_, rfl⟩
  rw [← hB] at hconv B0
  have BE := hid hB
  clear hB
  go_enter Try.func32, Try.ntmps32
  go_wp2_with fail
  go_loopg [4] s.size (fun g t wr => ∃ (j : Nat) (bs : List UInt8), j + g = s.size ∧ t = .int .i64 j ∧ bs.length = s.size ∧ Buf wr B c bs ∧ (∀ k, k < j → ¬ Bad bs k) ∧ Only [] w wr)
  case atStart => exact ⟨0, s.data.toList, by omega, rfl, by simp, B0.out, fun k h => absurd h (by omega), O0.out⟩
  case round =>
    obtain ⟨j, bs, hj, rfl, hl, hb, hn, hO⟩ := hrel
    have J := hid hj
    have L := hid hl
    have BB := hid hb
    have N := hid hn
    have O := hid hO
    clear hl hb hn hO
    have jb : (j : Int) ≤ 100000 := by omega
    have j0 : (0 : Int) ≤ (j : Int) := by omega
    have next : ¬ Bad bs j → ∀ k, k < j + 1 → ¬ Bad bs k := fun h k hk => by
      by_cases e : k = j
      · rw [e]; exact h
      · exact N.out k (by omega)
    have NX := hid next
    clear next
    by_cases hg : j + 2 < s.size
    · have i2 : (j : Int) + 2 < (s.size : Int) := by omega
      have i1 : (j : Int) + 1 < (s.size : Int) := by omega
      have i0 : (j : Int) < (s.size : Int) := by omega
      obtain ⟨g, rfl⟩ : ∃ g, gk = g + 1 := ⟨gk - 1, by omega⟩
      have hL := L.out
      obtain ⟨x, hx⟩ : ∃ x, bs[j]? = some x := ⟨bs[j]'(by omega), List.getElem?_eq_getElem _⟩
      obtain ⟨y, hy⟩ : ∃ y, bs[j + 1]? = some y := ⟨bs[j + 1]'(by omega), List.getElem?_eq_getElem _⟩
      obtain ⟨z, hz⟩ : ∃ z, bs[j + 2]? = some z := ⟨bs[j + 2]'(by omega), List.getElem?_eq_getElem _⟩
      have cx : wr.cell? ⟨B, j, none⟩ = some (.int .u8 x.toNat) := BB.out.cell j x hx
      have cy : wr.cell? ⟨B, j + 1, none⟩ = some (.int .u8 y.toNat) := BB.out.cell (j + 1) y hy
      have cz : wr.cell? ⟨B, j + 2, none⟩ = some (.int .u8 z.toNat) := BB.out.cell (j + 2) z hz
      have fz : wr.frozen? ⟨B, j + 2, none⟩ = false := (BB.out.room (j + 2) (by have := BB.out.le; omega)).2
      have j2 : j + 2 < bs.length := by omega
      have J2 := hid j2
      clear hj hg hL j2
      by_cases a : x = 0
      · have a' := (byte0 _).1 a
        by_cases b : y = 0
        · have b' := (byte0 _).1 b
          by_cases d : z ≤ 2
          · have d' : (z.toNat : Int) ≤ 2 := (byteLe _ 2 (by omega)).1 d
            have S1 := hid (BB.out.set (j + 2) J2.out 7)
            have NB := hid (fix_bad bs j J2.out N.out)
            clear a b d hx hy hz
            go_wp2_with fail
            go_roundg g
            case measure => omega
            case rel => exact ⟨j + 1, bs.set (j + 2) 7, by have := J.out; omega, by go_num, by simpa using L.out, S1.out, NB.out, O.out.setCell (.inr (by rw [BE.out]; exact Nat.le_refl _)) _⟩
          · have d' : ¬ (z.toNat : Int) ≤ 2 := mt (byteLe _ 2 (by omega)).2 d
            have NB := hid (NX.out (fun h => d (by
              obtain ⟨q, hq, hl⟩ := h.2.2
              rw [hz] at hq
              cases hq
              exact hl)))
            clear a b d hx hy hz
            go_wp2_with fail
            go_roundg g
            case measure => omega
            case rel => exact ⟨j + 1, bs, by have := J.out; omega, by go_num, L.out, BB.out, NB.out, O.out⟩
        · have b' := mt (byte0 _).2 b
          have NB := hid (NX.out (fun h => b (by have hq := h.2.1; rw [hy] at hq; exact Option.some.inj hq)))
          clear a b hx hy hz
          go_wp2_with fail
          go_roundg g
          case measure => omega
          case rel => exact ⟨j + 1, bs, by have := J.out; omega, by go_num, L.out, BB.out, NB.out, O.out⟩
      · have a' := mt (byte0 _).2 a
        have NB := hid (NX.out (fun h => a (by have hq := h.1; rw [hx] at hq; exact Option.some.inj hq)))
        clear a hx hy hz
        go_wp2_with fail
        go_roundg g
        case measure => omega
        case rel => exact ⟨j + 1, bs, by have := J.out; omega, by go_num, L.out, BB.out, NB.out, O.out⟩
    · have i2 : ¬ (j : Int) + 2 < (s.size : Int) := by omega
      have M9 := hid (may_nine bs (fun k hk => N.out k (by have := L.out; omega)))
      obtain ⟨sv, w2, hrun, hcv, ho2⟩ := BB.out.push 9 (by have := L.out; omega)
      rw [L.out] at hrun
      have O2 := hid (O.out.trans2 ho2 (fun q hq => .inr (by rw [List.mem_singleton.1 hq, BE.out]; exact Nat.le_refl _)))
      clear hj hg ho2
      go_wp2_with (at_builtin; refine Lib.wpList_append_run _ rfl _ _ _ _ rfl _ _ rfl rfl _ _ hrun ?_)
      go_ret
      exact ⟨_, rfl, by unfold strOf; exact M9.out, by have := L.out; show (bs ++ [9]).toArray.size = _; simp; omega, O2.out⟩
end Go.Proofs.Ytfigmjlnjaihnaa

/- The program's Join. -/
import Derived.Test.YtfigmjlnjaihnaaUb
import Derived.Test.YtfigmjlnjaihnaaSs
import Derived.Lib.AppendIntMem
import Derived.RangeFuncRecord
namespace Go.Proofs.Ytfigmjlnjaihnaa
open Go.RowKit
set_option linter.unusedVariables false

theorem Only.of_below0 {w w' : World} (h : Below w.heap.size w w') : Only [] w w' := ⟨h.os, h.tape, h.output, h.size, fun k hk _ => h.block k hk⟩
theorem join_step (l : List ByteArray) (j : Nat) (u : ByteArray) (h : l[j]? = some u) : joinF true (l.take (j + 1)) = joinF true (l.take j) ++ ((codeOf ((j : Int) == 0) u).data.toList ++ u.data.toList) := by
  have TS : l.take (j + 1) = l.take j ++ [u] := by
    obtain ⟨hj', rfl⟩ := List.getElem?_eq_some_iff.1 h
    exact List.take_succ_eq_append_getElem hj'
  have jl : j < l.length := (List.getElem?_eq_some_iff.1 h).1
  rw [TS, joinF_snoc, code_piece, Bool.true_and, show (l.take j).isEmpty = ((j : Int) == 0) from by
    by_cases e : j = 0
    · subst e; rfl
    · rw [beq_eq_false_iff_ne.2 (by omega), List.isEmpty_eq_false_iff]
      intro h
      have := congrArg List.length h
      rw [List.length_take, List.length_nil, Nat.min_eq_left (by omega)] at this
      exact e this]
theorem code_size (f : Bool) (u : ByteArray) : (codeOf f u).size ≤ 4 := by
  unfold codeOf
  split <;> decide
theorem join_len_step (l : List ByteArray) (j : Nat) (u : ByteArray) (h : l[j]? = some u) : (joinF true (l.take (j + 1))).length = (joinF true (l.take j)).length + ((codeOf ((j : Int) == 0) u).size + u.size) := by
  rw [join_step l j u h, List.length_append, List.length_append]
  simp
theorem str_cells (bs : List UInt8) (s : ByteArray) : Lib.byteCells bs ++ Lib.strCells s = Lib.byteCells (bs ++ s.data.toList) := by
  unfold Lib.byteCells Lib.strCells
  rw [List.map_append]
/-- A string written to a builder. -/
theorem ws (B b : Nat) (acc : List UInt8) (s : ByteArray) (W : World) (h : Lib.IsBuilderF 49 5 B b (Lib.byteCells acc) W) (hl : acc.length ≤ 100000000) (hs : s.size ≤ 100000000) (hb : B ≤ W.heap.size) :
    Calls Try.prog 30 #[.pointer (some ⟨b, 0, none⟩), .string s] W fun e W' => e = .returned (.tuple #[.int .i64 s.size, .nilIface]) ∧ Lib.IsBuilderF 49 5 B b (Lib.byteCells (acc ++ s.data.toList)) W' ∧ Below B W W' := by
  refine (write_string B b (Lib.byteCells acc) s W h (by rw [Lib.byteCells_length]; omega) hb).mono ?_
  rintro e W' ⟨rfl, h1, h2, h3⟩
  rw [str_cells] at h1
  exact ⟨rfl, .inr h1, h2⟩

set_option maxHeartbeats 8000000 in
theorem join_any (a : Value) (l : List ByteArray) (w : World) (hM : MaxL w) (ha : Holds w a l) (h1 : l.length ≤ 1000000) (hu : ∀ (j : Nat) (u : ByteArray), l[j]? = some u → u.size ≤ 100000000) :
    Calls Try.prog 16 #[a] w fun e w' => e = .returned (.tuple #[.string (joinR l).1, .int .i64 (joinR l).2]) ∧ Only [] w w' := by
  obtain ⟨a, c, rfl, HA⟩ := ha
  have HA := hid HA
  have HU := hid hu
  have HM := hid hM
  clear hu hM
  obtain ⟨r, hr⟩ : ∃ r, r = joinR l := ⟨_, rfl⟩
  rw [← hr]
  have U := hid hr
  clear hr
  by_cases hL : 4096 < l.length
  · have E := U.out
    unfold joinR at E
    rw [if_pos hL] at E
    subst E
    have i1 : (4096 : Int) < (l.length : Int) := by omega
    clear hL
    go_enter Try.func16, Try.ntmps16
    go_wp2_with fail
    go_ret2
    exact ⟨rfl, Only.refl _ _⟩
  · have i1 : ¬ (4096 : Int) < (l.length : Int) := by omega
    have lb : l.length ≤ 4096 := by omega
    have E := U.out
    unfold joinR at E
    rw [if_neg hL] at E
    have U2 := hid E
    clear hL E U
    have nb : (l.length : Int) ≤ 4096 := by omega
    go_enter Try.func16, Try.ntmps16
    go_wp2_with fail
    go_loopg [4, 15] l.length (fun g sz t wr => ∃ j k : Nat, j + g = l.length ∧ t = .int .i64 j ∧ sz = .int .i64 k ∧ k = (joinF true (l.take j)).length ∧ k ≤ j * 100000004 ∧ mayAll (l.take j) = true ∧ wr = w)
    case atStart => exact ⟨0, 0, by omega, rfl, rfl, rfl, by omega, rfl, rfl⟩
    case round =>
      obtain ⟨j, k, hj, rfl, rfl, hk, hkb, hm, hw⟩ := hrel
      obtain rfl : w = wr := hw.symm
      have J := hid hj
      have M := hid hm
      have K := hid hk
      clear hm hk
      have jb : (j : Int) ≤ 4096 := by omega
      have j0 : (0 : Int) ≤ (j : Int) := by omega
      have kb : (k : Int) ≤ 500000000000 := by omega
      have k0 : (0 : Int) ≤ (k : Int) := by omega
      by_cases hg : gk = 0
      · obtain rfl : j = l.length := by omega
        have j1 : ¬ (l.length : Int) < (l.length : Int) := by omega
        have E := U2.out
        have e := M.out
        rw [List.take_length] at e
        rw [if_pos e] at E
        have MA := hid e
        have kk := K.out
        rw [List.take_length] at kk
        rw [← kk] at E
        have KK := hid kk
        clear hj hg e kk hkb K M
        by_cases hbig : 16777216 < k
        · rw [if_pos hbig] at E
          subst E
          have b1 : (16777216 : Int) < (k : Int) := by omega
          clear hbig
          go_wp2_with fail
          go_ret2
          exact ⟨rfl, Only.refl _ _⟩
        · rw [if_neg hbig] at E
          subst E
          have b1 : ¬ (16777216 : Int) < (k : Int) := by omega
          have kn : k ≤ 16777216 := by omega
          clear hbig
          have GF := hid (fun W : World => grow_fresh w.heap.size w.heap.size k (w.alloc (.cells #[.pointer none, .slice none 0 0] 49)) (Nat.le_refl _) (World.alloc_heap_new _ _) (by simp) (by omega))
          go_wp2_with fail
          refine (GF.out w).mono ?_
          rintro e w1 ⟨rfl, hA, hB⟩
          have F1 := hid (Or.inr (Lib.BuilderAtF.of hA) : Lib.IsBuilderF 49 5 w.heap.size w.heap.size (Lib.byteCells []) w1)
          have B1 := hid (((Below.refl _ w).alloc (Nat.le_refl _) _).trans hB : Below w.heap.size w w1)
          clear hA hB
          go_wp2_with fail
          go_loopg [40] l.length (fun g t wr => ∃ (j : Nat), j + g = l.length ∧ t = .int .i64 j ∧ Lib.IsBuilderF 49 5 w.heap.size w.heap.size (Lib.byteCells (joinF true (l.take j))) wr ∧ Below w.heap.size w wr)
          case atStart => exact ⟨0, by omega, rfl, F1.out, B1.out⟩
          case round =>
            obtain ⟨j, hj, rfl, hF, hB⟩ := hrel
            have J := hid hj
            have F := hid hF
            have B := hid hB
            have TK := hid (joinF_take l true j)
            have jb : (j : Int) ≤ 4096 := by omega
            have j0 : (0 : Int) ≤ (j : Int) := by omega
            have SZ := hB.size
            clear hF hB
            by_cases hg : gk = 0
            · obtain rfl : j = l.length := by omega
              have m1 : ¬ (l.length : Int) < (l.length : Int) := by omega
              have F2 := F.out
              rw [List.take_length] at F2
              have SA := hid (string_any w.heap.size w.heap.size (joinF true l) wr F2 SZ)
              clear hj hg F2
              go_wp2_with fail
              refine SA.out.mono ?_
              rintro e w2 ⟨rfl, _, hB2, _⟩
              have B2 := hid (B.out.trans hB2)
              clear hB2
              go_wp2_with fail
              go_ret2
              exact ⟨rfl, Only.of_below0 B2.out⟩
            · have m1 : (j : Int) < (l.length : Int) := by omega
              obtain ⟨g, rfl⟩ : ∃ g, gk = g + 1 := ⟨gk - 1, by omega⟩
              obtain ⟨u, hlu⟩ : ∃ u, l[j]? = some u := ⟨l[j]'(by omega), List.getElem?_eq_getElem _⟩
              obtain ⟨ad, rfl, hx⟩ := HA.out j u hlu
              have up := may_size u (mayAll_at MA.out hlu)
              have us := HU.out j u hlu
              have JS := hid (join_step l j u hlu)
              have CS := code_size ((j : Int) == 0) u
              have xc := (B.out.cell (p := ad.add j) (World.block_lt_of_cell? _ _ hx)).trans hx
              have BF := before_any u ((j : Int) == 0) wr up
              obtain ⟨c, hc⟩ : ∃ c, c = codeOf ((j : Int) == 0) u := ⟨_, rfl⟩
              rw [← hc] at JS CS BF
              have W1 := hid (ws w.heap.size w.heap.size (joinF true (l.take j)) c wr F.out (by have := TK.out; have := KK.out; omega) (by omega) SZ)
              have T2 := KK.out
              have T1 := TK.out
              rw [← T2] at T1
              have LX := hid hx
              clear hj hg hlu hc T2 hx
              go_wp2_with fail
              refine BF.mono ?_
              rintro e w' ⟨rfl, rfl⟩
              go_wp2_with fail
              refine W1.out.mono ?_
              rintro e w2 ⟨rfl, hF2, hB2⟩
              have S2 : w.heap.size ≤ w2.heap.size := Nat.le_trans SZ hB2.size
              have W2 := hid (ws w.heap.size w.heap.size _ u w2 hF2 (by rw [List.length_append]; simp; omega) us S2)
              have B2 := hid (B.out.trans hB2)
              clear hF2 hB2
              go_wp2_with fail
              refine W2.out.mono ?_
              rintro e w3 ⟨rfl, hF3, hB3⟩
              rw [List.append_assoc, ← JS.out] at hF3
              have F3 := hid hF3
              have B3 := hid (B2.out.trans hB3)
              clear hF3 hB3
              go_wp2_with fail
              go_roundg g
              case measure => omega
              case rel => exact ⟨j + 1, by have := J.out; omega, by go_num, F3.out, B3.out⟩
      · have j1 : (j : Int) < (l.length : Int) := by omega
        obtain ⟨g, rfl⟩ : ∃ g, gk = g + 1 := ⟨gk - 1, by omega⟩
        obtain ⟨u, hlu⟩ : ∃ u, l[j]? = some u := ⟨l[j]'(by omega), List.getElem?_eq_getElem _⟩
        obtain ⟨ad, rfl, hx⟩ := HA.out j u hlu
        have us := HU.out j u hlu
        have MY := may_any u w HM.out us
        have LU := hid hlu
        clear hj hg hlu
        by_cases hm : mayB u.data.toList = true
        · rw [hm] at MY
          have NX := hid (mayAll_take M.out LU.out hm)
          have up := may_size u hm
          have BF := before_any u ((j : Int) == 0) w up
          have CS := code_size ((j : Int) == 0) u
          have JL := join_len_step l j u LU.out
          rw [← K.out] at JL
          obtain ⟨c, hc⟩ : ∃ c, c = codeOf ((j : Int) == 0) u := ⟨_, rfl⟩
          rw [← hc] at BF CS JL
          have JL := hid JL
          have c0 : (0 : Int) ≤ (c.size : Int) := by omega
          have c4 : (c.size : Int) ≤ 4 := by omega
          have u0 : (0 : Int) ≤ (u.size : Int) := by omega
          have ub : (u.size : Int) ≤ 100000000 := by omega
          clear hm hc
          go_wp2_with fail
          refine MY.mono ?_
          rintro e w' ⟨rfl, rfl⟩
          go_wp2_with fail
          refine BF.mono ?_
          rintro e w' ⟨rfl, rfl⟩
          go_wp2_with fail
          go_roundg g
          case measure => omega
          case rel => exact ⟨j + 1, k + (c.size + u.size), by have := J.out; omega, by go_num, by go_num, JL.out.symm, by omega, NX.out, rfl⟩
        · have hm : mayB u.data.toList = false := by simpa using hm
          have E := U2.out
          rw [mayAll_no LU.out hm, if_neg (by simp)] at E
          subst E
          rw [hm] at MY
          clear hm
          go_wp2_with fail
          refine MY.mono ?_
          rintro e w' ⟨rfl, rfl⟩
          go_wp2_with fail
          go_ret2
          exact ⟨rfl, Only.refl _ _⟩
end Go.Proofs.Ytfigmjlnjaihnaa

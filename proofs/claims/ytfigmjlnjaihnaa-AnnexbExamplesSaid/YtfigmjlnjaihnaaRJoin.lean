/- The reference's Join. -/
import Derived.Test.YtfigmjlnjaihnaaJoM
namespace Go.Proofs.Ytfigmjlnjaihnaa
open Go.RowKit
set_option linter.unusedVariables false

/-- A start code, and the unit behind it. -/
theorem code_appends (B : Nat) (w : World) (out : Value) (bs : List UInt8) (R : Row w out bs) (F : ∀ g, g ∈ ownOf out → B ≤ g) (hB : B ≤ w.heap.size) (u : ByteArray) (hl : bs.length + 3 + u.size ≤ 140737488355328) :
    ∃ sv2 w2 sv3 w3, (Builtin.append_ #[36, 36] 36 #[out, .slice (some ⟨w.heap.size, 0, none⟩) 3 3]).run Try.prog (w.drew.alloc (.cells #[.int .u8 0, .int .u8 0, .int .u8 1] 5)) = .ok sv2 w2 ∧
      (Builtin.append_ #[36, 9] 36 #[sv2, .string u]).run Try.prog w2 = .ok sv3 w3 ∧ Row w3 sv3 (bs ++ ([0, 0, 1] ++ u.data.toList)) ∧ Only (ownOf out) w w2 ∧ Only (ownOf out) w w3 ∧ ∀ g, g ∈ ownOf sv3 → B ≤ g := by
  have ra : Only [] w (w.drew.alloc (.cells #[.int .u8 0, .int .u8 0, .int .u8 1] 5)) := ((Only.refl [] w).drew).alloc _
  obtain ⟨sv2, w2, hrun, hrow, honly, hown⟩ := run_append_bytes (w.drew.alloc (.cells #[.int .u8 0, .int .u8 0, .int .u8 1] 5)) 36 _ _ (R.only ra (by simp)) ⟨w.heap.size, 0, none⟩ 3 [0, 0, 1] (by simp) (fun j v hj => by
    have hj3 : j < 3 := by have := (List.getElem?_eq_some_iff.1 hj).1; simpa using this
    rw [addr_add, show w.heap.size = w.drew.heap.size from rfl, World.cell?_alloc_new]
    rcases (show j = 0 ∨ j = 1 ∨ j = 2 by omega) with rfl | rfl | rfl <;> simpa [byteV] using hj) (by simp; omega)
  have O2 : Only (ownOf out) w w2 := (ra.mono (fun _ _ h => by cases h)).trans honly
  have F2 : ∀ g, g ∈ ownOf sv2 → B ≤ g := fun g hg => by
    rcases hown g hg with e | e
    · exact F g e
    · simp at e; omega
  obtain ⟨sv3, w3, hrun3, hrow3, honly3, hown3⟩ := append_text B w2 36 sv2 (bs ++ [0, 0, 1]) hrow F2 (by have := O2.size; omega) u (by simp; omega)
  refine ⟨sv2, w2, sv3, w3, hrun, hrun3, by rw [← List.append_assoc]; exact hrow3, O2, O2.trans2 honly3 (fun x hx => ?_), hown3⟩
  rcases hown x hx with e | e
  · exact .inl e
  · simp at e; exact .inr (by omega)

set_option maxHeartbeats 8000000 in
theorem rjoin_any (a : Value) (l : List ByteArray) (w : World) (ha : Holds w a l) (h1 : l.length ≤ 1000000) (hu : ∀ (j : Nat) (u : ByteArray), l[j]? = some u → u.size ≤ 100000000) :
    Calls Try.prog 17 #[a] w fun e w' => e = .returned (.tuple #[.string (joinR l).1, .int .i64 (joinR l).2]) ∧ Only [] w w' := by
  obtain ⟨a, c, rfl, HA⟩ := ha
  have HA := hid HA
  have HU := hid hu
  clear hu
  obtain ⟨r, hr⟩ : ∃ r, r = joinR l := ⟨_, rfl⟩
  rw [← hr]
  have U := hid hr
  clear hr
  by_cases hL : 4096 < l.length
  · have E := U.out
    unfold joinR at E
    rw [if_pos hL] at E
    subst E
    have i1 : (4096 : Int) < (l.length : Int) := by omega
    clear hL
    go_enter Try.func17, Try.ntmps17
    go_wp2_with fail
    go_ret2
    exact ⟨rfl, Only.refl _ _⟩
  · have i1 : ¬ (4096 : Int) < (l.length : Int) := by omega
    have E := U.out
    unfold joinR at E
    rw [if_neg hL] at E
    have U2 := hid E
    clear hL E U
    have nb : (l.length : Int) ≤ 1000000 := by omega
    go_enter Try.func17, Try.ntmps17
    go_wp2_with fail
    go_loopg [4] l.length (fun g t wr => ∃ j : Nat, j + g = l.length ∧ t = .int .i64 j ∧ mayAll (l.take j) = true ∧ wr = w)
    case atStart => exact ⟨0, by omega, rfl, rfl, rfl⟩
    case round =>
      obtain ⟨j, hj, rfl, hm, hw⟩ := hrel
      obtain rfl : w = wr := hw.symm
      have J := hid hj
      have M := hid hm
      clear hm
      have jb : (j : Int) ≤ 1000000 := by omega
      have j0 : (0 : Int) ≤ (j : Int) := by omega
      by_cases hg : gk = 0
      · obtain rfl : j = l.length := by omega
        have j1 : ¬ (l.length : Int) < (l.length : Int) := by omega
        have E := U2.out
        have e := M.out
        rw [List.take_length] at e
        rw [if_pos e] at E
        have E := hid E
        have MA := hid e
        clear hj hg e
        go_wp2_with fail
        go_loopg [5, 6] l.length (fun g out t wr => ∃ (j : Nat) (bs : List UInt8), j + g = l.length ∧ t = .int .i64 j ∧ Row wr out bs ∧ bs = joinF true (l.take j) ∧ (∀ g, g ∈ ownOf out → w.heap.size ≤ g) ∧ Only [] w wr)
        case atStart => exact ⟨0, [], by omega, rfl, ⟨rfl, .inl ⟨rfl, rfl⟩⟩, by simp [joinF], by simp [ownOf, Value.ownBlock], Only.refl _ _⟩
        case round =>
          obtain ⟨j, bs, hj, rfl, hR, hB, hF, hO⟩ := hrel
          obtain ⟨b, d, rfl, hd⟩ := hR.form
          have J := hid hj
          have R := hid hR
          have BE := hid hB
          have F := hid hF
          have O := hid hO
          have TK := hid (joinF_take l true j)
          clear hR hB hF hO
          have jb : (j : Int) ≤ 1000000 := by omega
          have j0 : (0 : Int) ≤ (j : Int) := by omega
          have b0 : (0 : Int) ≤ (bs.length : Int) := by omega
          by_cases hlong : 16777216 < bs.length
          · have e := TK.out
            rw [← BE.out] at e
            have E' := E.out
            rw [if_pos (by omega)] at E'
            subst E'
            have k1 : (16777216 : Int) < (bs.length : Int) := by omega
            have k2 : ¬ (bs.length : Int) ≤ 16777216 := by omega
            by_cases hg : gk = 0
            · obtain rfl : j = l.length := by omega
              have m1 : ¬ (l.length : Int) < (l.length : Int) := by omega
              clear hj hg e hlong
              go_wp2_with fail
              go_ret2
              exact ⟨rfl, O.out⟩
            · have m1 : (j : Int) < (l.length : Int) := by omega
              clear hj hg e hlong
              go_wp2_with fail
              go_ret2
              exact ⟨rfl, O.out⟩
          · have k2 : (bs.length : Int) ≤ 16777216 := by omega
            have k1 : ¬ (16777216 : Int) < (bs.length : Int) := by omega
            by_cases hg : gk = 0
            · obtain rfl : j = l.length := by omega
              have e := BE.out
              rw [List.take_length] at e
              have E' := E.out
              rw [← e, if_neg hlong] at E'
              subst E'
              have CV := conv_row R.out
              rw [show (⟨bs.toArray⟩ : ByteArray) = strOf bs from rfl] at CV
              have m1 : ¬ (l.length : Int) < (l.length : Int) := by omega
              clear hj hg e hlong
              go_wp2_with fail
              go_ret2
              exact ⟨rfl, O.out⟩
            · have m1 : (j : Int) < (l.length : Int) := by omega
              obtain ⟨g, rfl⟩ : ∃ g, gk = g + 1 := ⟨gk - 1, by omega⟩
              have jl : j < l.length := by omega
              obtain ⟨u, hlu⟩ : ∃ u, l[j]? = some u := ⟨l[j]'jl, List.getElem?_eq_getElem _⟩
              have TS : l.take (j + 1) = l.take j ++ [u] := by
                obtain ⟨hj', rfl⟩ := List.getElem?_eq_some_iff.1 hlu
                exact List.take_succ_eq_append_getElem hj'
              have PS := joinF_snoc (l.take j) u true
              rw [← TS, ← BE.out, Bool.true_and, show (l.take j).isEmpty = ((j : Int) == 0) from by
                by_cases e : j = 0
                · subst e; rfl
                · rw [beq_eq_false_iff_ne.2 (by omega), List.isEmpty_eq_false_iff]
                  intro h
                  have := congrArg List.length h
                  rw [List.length_take, List.length_nil, Nat.min_eq_left (by omega)] at this
                  exact e this] at PS
              have up := may_size u (mayAll_at MA.out hlu)
              unfold piece at PS
              rw [head_get u up] at PS
              obtain ⟨ad, rfl, hx⟩ := HA.out j u hlu
              have LU := hid hlu
              have LX := hid hx
              have ub : (u[0].toNat : Int) ≤ 255 := by have := UInt8.toNat_lt u[0]; omega
              have ub0 : 0 ≤ (u[0].toNat : Int) := by omega
              have upI : (0 : Int) < (u.size : Int) := by omega
              have LG := hid (fun w => rlong_any ((u[0].toNat : Int) % 32) ((j : Int) == 0) w (by omega) (by omega))
              have xc := O.out.cell hx (by simp)
              have PS := hid PS
              clear hj hg hlu hx TS hlong jl
              go_wp2_with fail
              refine (LG.out _).mono ?_
              rintro e w' ⟨rfl, rfl⟩
              cases hlb : longB ((u[0].toNat : Int) % 32) ((j : Int) == 0) with
              | true =>
                have PE := PS.out
                rw [hlb, if_pos rfl] at PE
                have PE := hid PE
                clear hlb
                obtain ⟨sv1, w1, hrun1, hrow1, honly1, hown1⟩ := append_one w' (.slice b bs.length d) bs 0 0 rfl R.out (by omega)
                have R1 := hid hrow1
                have O1 := hid (O.out.trans2 honly1 (fun x hx => .inr (F.out x hx)))
                have F1 := hid (show ∀ g, g ∈ ownOf sv1 → w.heap.size ≤ g from fun g hg => by
                  rcases hown1 g hg with e | e
                  · exact F.out g e
                  · exact Nat.le_trans O.out.size e)
                clear hrow1 honly1 hown1
                go_wp2_with (at_builtin; refine Lib.wpList_append_run _ rfl _ _ _ _ rfl _ _ rfl rfl _ _ hrun1 ?_)
                obtain ⟨sv2, w2, sv3, w3, hrun2, hrun3, hrow, ho2, ho3, hf3⟩ := code_appends w.heap.size w1 sv1 (bs ++ [0]) R1.out F1.out O1.out.size u (by have := HU.out j u LU.out; simp; omega)
                have x0 := O1.out.cell LX.out (by simp)
                have x1 : w1.drew.cell? (ad.add j) = some (.string u) := x0
                have AB : (ad.add j).block < w.heap.size := World.block_lt_of_cell? _ _ LX.out
                have x2 := ho2.cell x0 (fun h => by have := F1.out _ h; omega)
                have x3 := ho3.cell x0 (fun h => by have := F1.out _ h; omega)
                have R3 := hid hrow
                have O3 := hid (O1.out.trans2 ho3 (fun x hx => .inr (F1.out x hx)))
                have F3 := hid hf3
                clear hrow ho2 ho3 hf3 AB
                go_region_held_law (fun w' => w'.cell? (ad.add j) = some (.string u)) (first | exact x0 | exact x1 | exact x2 | exact x3 | go_keep)
                  (first
                    | exact step_append_eq rfl _ _ _ _ rfl _ _ rfl rfl _ _ hrun2 ?_
                    | refine step_append_eq rfl _ _ _ _ rfl _ _ rfl rfl _ _ hrun2 ?_
                    | refine step_append_eq rfl _ _ _ _ rfl _ _ rfl rfl _ _ hrun3 ?_)
                go_wp2_with fail
                go_roundg g
                case measure => omega
                case rel => exact ⟨j + 1, _, by have := J.out; omega, by go_num, R3.out, by rw [PE.out]; simp, F3.out, O3.out⟩
              | false =>
                have PE := PS.out
                rw [hlb, if_neg (by simp)] at PE
                have PE := hid PE
                clear hlb
                go_wp2_with fail
                obtain ⟨sv2, w2, sv3, w3, hrun2, hrun3, hrow, ho2, ho3, hf3⟩ := code_appends w.heap.size w' (.slice b bs.length d) bs R.out F.out O.out.size u (by have := HU.out j u LU.out; omega)
                have x0 := O.out.cell LX.out (by simp)
                have x1 : w'.drew.cell? (ad.add j) = some (.string u) := x0
                have AB : (ad.add j).block < w.heap.size := World.block_lt_of_cell? _ _ LX.out
                have x2 := ho2.cell x0 (fun h => by have := F.out _ h; omega)
                have x3 := ho3.cell x0 (fun h => by have := F.out _ h; omega)
                have R3 := hid hrow
                have O3 := hid (O.out.trans2 ho3 (fun x hx => .inr (F.out x hx)))
                have F3 := hid hf3
                clear hrow ho2 ho3 hf3 AB
                go_region_held_law (fun w' => w'.cell? (ad.add j) = some (.string u)) (first | exact x0 | exact x1 | exact x2 | exact x3 | go_keep)
                  (first
                    | exact step_append_eq rfl _ _ _ _ rfl _ _ rfl rfl _ _ hrun2 ?_
                    | refine step_append_eq rfl _ _ _ _ rfl _ _ rfl rfl _ _ hrun2 ?_
                    | refine step_append_eq rfl _ _ _ _ rfl _ _ rfl rfl _ _ hrun3 ?_)
                go_wp2_with fail
                go_roundg g
                case measure => omega
                case rel => exact ⟨j + 1, _, by have := J.out; omega, by go_num, R3.out, by rw [PE.out]; simp, F3.out, O3.out⟩
      · have j1 : (j : Int) < (l.length : Int) := by omega
        obtain ⟨g, rfl⟩ : ∃ g, gk = g + 1 := ⟨gk - 1, by omega⟩
        obtain ⟨u, hlu⟩ : ∃ u, l[j]? = some u := ⟨l[j]'(by omega), List.getElem?_eq_getElem _⟩
        obtain ⟨ad, rfl, hx⟩ := HA.out j u hlu
        have MY := rmay_any u w (HU.out j u hlu)
        have LU := hid hlu
        clear hj hg hlu
        by_cases hm : mayB u.data.toList = true
        · rw [hm] at MY
          have NX := hid (mayAll_take M.out LU.out hm)
          clear hm
          go_wp2_with fail
          refine MY.mono ?_
          rintro e w' ⟨rfl, rfl⟩
          go_wp2_with fail
          go_roundg g
          case measure => omega
          case rel => exact ⟨j + 1, by have := J.out; omega, by go_num, NX.out, rfl⟩
        · have hm : mayB u.data.toList = false := by simpa using hm
          have E := U2.out
          rw [mayAll_no LU.out hm, if_neg (by simp)] at E
          subst E
          rw [hm] at MY
          clear hm
          go_wp2_with fail
          refine MY.mono ?_
          rintro e w' ⟨rfl, rfl⟩
          go_wp2_with fail
          go_ret2
          exact ⟨rfl, Only.refl _ _⟩
end Go.Proofs.Ytfigmjlnjaihnaa

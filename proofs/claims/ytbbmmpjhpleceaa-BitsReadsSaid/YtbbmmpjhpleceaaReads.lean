/- BitsReads: readers return what the reference returns, call by call. -/
import Derived.Test.YtbbmmpjhpleceaaKnown
import Derived.Test.YtbbmmpjhpleceaaRr
import Derived.Test.YtbbmmpjhpleceaaCalls
namespace Go.Proofs.Ytbbmmpjhpleceaa
open Go.RowKit
set_option linter.unusedVariables false

set_option maxRecDepth 100000 in
set_option maxHeartbeats 2000000 in
theorem reads_walk (s : ByteArray) (a : Option Addr) (len cap : Nat) (f : Nat → Int × Int × Int) (w : World) (hs : s.size ≤ maxLen) (hlc : len ≤ cap) (hcm : cap ≤ maxLen) (hc : CallsAt w a len f) :
    Calls Try.prog 3 #[.string s, .slice a len cap] w fun e w' => e = .returned (.bool true) ∧ Only [] w w' := by
  unfold maxLen at hs hcm
  by_cases h0 : 2000 < s.size ∨ 60 < len
  · have h0' : (2000 : Int) < (s.size : Int) ∨ ((s.size : Int) ≤ 2000 ∧ (60 : Int) < (len : Int)) := by omega
    clear h0 hc
    rcases h0' with h0' | ⟨h1, h2⟩
    all_goals
      go_enter Try.func3, Try.ntmps3
      go_wp2_with (go_at_call 11; refine (known_any _).mono ?_; rintro e w1 ⟨rfl, ho1⟩)
      go_ret
      exact ⟨rfl, ho1⟩
  · have h1 : (s.size : Int) ≤ 2000 := by omega
    have h2 : (len : Int) ≤ 60 := by omega
    have C0 := hid hc
    clear h0 hs hc
    go_enter Try.func3, Try.ntmps3
    go_wp2_with fail
    refine (read_any s w (by omega)).mono ?_
    rintro e w1 ⟨rfl, hr1, ho1⟩
    go_wp2_with fail
    refine (rread_any s w1 (by omega)).mono ?_
    rintro e w2 ⟨rfl, hq2, ho2⟩
    have hr2 := hr1.only ho2 (by simp)
    have o2 : Only [] w w2 := ho1.trans ho2
    have hrq : w.heap.size < w1.heap.size := hr1.lt
    obtain ⟨r, hr⟩ : ∃ r, r = w.heap.size := ⟨_, rfl⟩
    obtain ⟨q, hq⟩ : ∃ q, q = w1.heap.size := ⟨_, rfl⟩
    rw [← hr] at hr2 hrq ⊢
    rw [← hq] at hq2 hrq ⊢
    have HR := hid hr
    have O2 := hid o2
    have R2 := hid hr2
    have Q2 := hid hq2
    clear hr hq o2 hr2 hq2 ho1 ho2 hr1
    go_wp2_with fail
    go_loopg [7] len (fun g i wr => ∃ j pos : Nat, j + g = len ∧ i = .int .i64 j ∧ Rd wr r s pos ∧ Rd wr q s pos ∧ Only [] w wr)
    case atStart => exact ⟨0, 0, by omega, rfl, R2.out, Q2.out, O2.out⟩
    case round =>
      obtain ⟨j, pos, hj, rfl, hR, hQ, hO⟩ := hrel
      have R := hid hR
      have Q := hid hQ
      have O := hid hO
      have C := hid (C0.out.only hO)
      have J := hid hj
      clear hR hQ hO
      by_cases hg : gk = 0
      · have i1 : ¬ (j : Int) < (len : Int) := by omega
        clear hj
        go_wp2_with fail
        refine (known_any wr).mono ?_
        rintro e w3 ⟨rfl, ho3⟩
        go_wp2_with fail
        go_ret
        exact ⟨rfl, O.out.trans ho3⟩
      · have i1 : (j : Int) < (len : Int) := by omega
        have hjl : j < len := by omega
        clear hj
        rcases C.out with hz | ⟨b, o, rfl, hall⟩
        · omega
        · obtain ⟨⟨x0, x1, x2⟩, ⟨b1, b2⟩, b3, b4⟩ := hall j hjl
          generalize (f j).1 = c at *
          generalize hnn : (f j).2.1 = n at *
          have NN := hid hnn
          clear x2 hall b3 b4 hnn
          have hrq' : r ∉ [q] := fun h => by have := List.mem_singleton.1 h; omega
          have hqr' : q ∉ [r] := fun h => by have := List.mem_singleton.1 h; omega
          have hrw : ∀ x, x ∈ [r] → x ∈ ([] : List Nat) ∨ w.heap.size ≤ x := fun x hx => .inr (by rw [List.mem_singleton.1 hx, HR.out]; exact Nat.le_refl _)
          have hqw : ∀ x, x ∈ [q] → x ∈ ([] : List Nat) ∨ w.heap.size ≤ x := fun x hx => .inr (by rw [List.mem_singleton.1 hx]; have := HR.out; omega)
          have RQ := hid hrq'
          have QR := hid hqr'
          have RW := hid hrw
          have QW := hid hqw
          clear hrq' hqr' hrw hqw
          by_cases c1 : c % 3 = 1
          · have c1' : (c % 3 == 1) = true := by simp [c1]
            have P1 := fun w h => bit_any r s pos w h
            have P2 := fun w h => rbit_any q s pos w h
            generalize rdU s pos 1 = t at *
            obtain ⟨x, y, z⟩ := t
            have P1 := hid P1
            have P2 := hid P2
            clear c1
            go_wp2_with fail
            refine (P1.out wr R.out).mono ?_
            rintro e w3 ⟨rfl, hR3, hO3⟩
            have R3 := hid hR3
            have Q3 := hid (Q.out.only hO3 QR.out)
            have O3 := hid (O.out.trans2 hO3 RW.out)
            clear hR3 hO3
            go_wp2_with fail
            refine (P2.out w3 Q3.out).mono ?_
            rintro e w4 ⟨rfl, hQ4, hO4⟩
            have Q4 := hid hQ4
            have R4 := hid (R3.out.only hO4 RQ.out)
            have O4 := hid (O3.out.trans2 hO4 QW.out)
            clear hQ4 hO4
            go_wp2_with fail
            refine (pos_any r s z w4 R4.out).mono ?_
            rintro e w5 ⟨rfl, rfl⟩
            go_wp2_with fail
            refine (rpos_any q s z w4 Q4.out).mono ?_
            rintro e w5 ⟨rfl, rfl⟩
            go_wp2_with fail
            refine (left_any r s z w4 R4.out).mono ?_
            rintro e w5 ⟨rfl, n5, rfl⟩
            go_wp2_with fail
            refine (rleft_any q s z _ (Q4.out.drewN n5)).mono ?_
            rintro e w6 ⟨rfl, n6, rfl⟩
            go_wp2_with fail
            go_roundg (gk - 1)
            case measure => omega
            case rel => exact ⟨j + 1, z, by have := J.out; omega, by go_num, R4.out.drewN _, Q4.out.drewN _, O4.out.drewN _⟩
          · have c1' : (c % 3 == 1) = false := by rw [beq_eq_false_iff_ne]; exact c1
            by_cases c2 : c % 3 = 2
            · have c2' : (c % 3 == 2) = true := by simp [c2]
              have P1 := fun b w h => u_any b s pos n w h
              have P2 := fun b w h => ru_any b s pos n w h
              generalize rdU s pos n = t at *
              obtain ⟨x, y, z⟩ := t
              have P1 := hid P1
              have P2 := hid P2
              clear c1 c2
              go_wp2_with fail
              refine (copy_any r s pos wr R.out).mono ?_
              rintro e w3 ⟨rfl, hC3, hO3⟩
              have hcl : wr.heap.size < w3.heap.size := hC3.lt
              generalize hcc : wr.heap.size = cb at hC3 hcl ⊢
              have rlt := R.out.lt
              have qlt := Q.out.lt
              have cr : cb ≠ r := by omega
              have cq : cb ≠ q := by omega
              have cw : w.heap.size ≤ cb := by have := O.out.size; omega
              clear hcc rlt qlt
              have C3 := hid hC3
              have R3 := hid (R.out.only hO3 (by simp))
              have Q3 := hid (Q.out.only hO3 (by simp))
              have O3 := hid (O.out.trans hO3)
              clear hC3 hO3
              go_wp2_with fail
              refine (rcopy_any q s pos w3 Q3.out).mono ?_
              rintro e w4 ⟨rfl, hD4, hO4⟩
              have hclt := C3.out.lt
              generalize hdd : w3.heap.size = db at hD4 hclt ⊢
              have rlt := R3.out.lt
              have qlt := Q3.out.lt
              have dr : db ≠ r := by omega
              have dq : db ≠ q := by omega
              have dc : db ≠ cb := by omega
              have dw : w.heap.size ≤ db := by have := O3.out.size; omega
              clear hdd rlt qlt hclt
              have D4 := hid hD4
              have C4 := hid (C3.out.only hO4 (by simp))
              have R4 := hid (R3.out.only hO4 (by simp))
              have Q4 := hid (Q3.out.only hO4 (by simp))
              have O4 := hid (O3.out.trans hO4)
              clear hD4 hO4
              have x4 := (C0.out.at O4.out hjl).2.1
              rw [NN.out] at x4
              go_wp2_with fail
              refine (P1.out cb w4 C4.out).mono ?_
              rintro e w5 ⟨rfl, hC5, hO5⟩
              have C5 := hid hC5
              have D5 := hid (D4.out.only hO5 (by simpa using dc))
              have R5 := hid (R4.out.only hO5 (by simpa using Ne.symm cr))
              have Q5 := hid (Q4.out.only hO5 (by simpa using Ne.symm cq))
              have O5 := hid (O4.out.trans2 hO5 (fun x hx => .inr (by rw [List.mem_singleton.1 hx]; exact cw)))
              clear hC5 hO5
              have x5 := (C0.out.at O5.out hjl).2.1
              rw [NN.out] at x5
              go_wp2_with fail
              refine (P2.out db w5 D5.out).mono ?_
              rintro e w6 ⟨rfl, hD6, hO6⟩
              have D6 := hid hD6
              have C6 := hid (C5.out.only hO6 (by simpa using Ne.symm dc))
              have R6 := hid (R5.out.only hO6 (by simpa using Ne.symm dr))
              have Q6 := hid (Q5.out.only hO6 (by simpa using Ne.symm dq))
              have O6 := hid (O5.out.trans2 hO6 (fun x hx => .inr (by rw [List.mem_singleton.1 hx]; exact dw)))
              clear hD6 hO6
              go_wp2_with fail
              refine (pos_any cb s z w6 C6.out).mono ?_
              rintro e w7 ⟨rfl, rfl⟩
              go_wp2_with fail
              refine (rpos_any db s z w6 D6.out).mono ?_
              rintro e w7 ⟨rfl, rfl⟩
              go_wp2_with fail
              refine (pos_any r s pos w6 R6.out).mono ?_
              rintro e w7 ⟨rfl, rfl⟩
              go_wp2_with fail
              refine (rpos_any q s pos w6 Q6.out).mono ?_
              rintro e w7 ⟨rfl, rfl⟩
              go_wp2_with fail
              refine (left_any r s pos w6 R6.out).mono ?_
              rintro e w7 ⟨rfl, n7, rfl⟩
              go_wp2_with fail
              refine (rleft_any q s pos _ (Q6.out.drewN n7)).mono ?_
              rintro e w8 ⟨rfl, n8, rfl⟩
              go_wp2_with fail
              go_roundg (gk - 1)
              case measure => omega
              case rel => exact ⟨j + 1, pos, by have := J.out; omega, by go_num, R6.out.drewN _, Q6.out.drewN _, O6.out.drewN _⟩
            · have c2' : (c % 3 == 2) = false := by rw [beq_eq_false_iff_ne]; exact c2
              have P1 := fun w h => u_any r s pos n w h
              have P2 := fun w h => ru_any q s pos n w h
              generalize rdU s pos n = t at *
              obtain ⟨x, y, z⟩ := t
              have P1 := hid P1
              have P2 := hid P2
              clear c1 c2
              go_wp2_with fail
              refine (P1.out wr R.out).mono ?_
              rintro e w3 ⟨rfl, hR3, hO3⟩
              have R3 := hid hR3
              have Q3 := hid (Q.out.only hO3 QR.out)
              have O3 := hid (O.out.trans2 hO3 RW.out)
              clear hR3 hO3
              have x3 := (C0.out.at O3.out hjl).2.1
              rw [NN.out] at x3
              go_wp2_with fail
              refine (P2.out w3 Q3.out).mono ?_
              rintro e w4 ⟨rfl, hQ4, hO4⟩
              have Q4 := hid hQ4
              have R4 := hid (R3.out.only hO4 RQ.out)
              have O4 := hid (O3.out.trans2 hO4 QW.out)
              clear hQ4 hO4
              go_wp2_with fail
              refine (pos_any r s z w4 R4.out).mono ?_
              rintro e w7 ⟨rfl, rfl⟩
              go_wp2_with fail
              refine (rpos_any q s z w4 Q4.out).mono ?_
              rintro e w7 ⟨rfl, rfl⟩
              go_wp2_with fail
              refine (left_any r s z w4 R4.out).mono ?_
              rintro e w7 ⟨rfl, n7, rfl⟩
              go_wp2_with fail
              refine (rleft_any q s z _ (Q4.out.drewN n7)).mono ?_
              rintro e w8 ⟨rfl, n8, rfl⟩
              go_wp2_with fail
              go_roundg (gk - 1)
              case measure => omega
              case rel => exact ⟨j + 1, z, by have := J.out; omega, by go_num, R4.out.drewN _, Q4.out.drewN _, O4.out.drewN _⟩

open Go.ChangeShapes Go.WideShapes Go.ChangeAt
open Go.ChangeMaps (open_string)
theorem bitsReads_core {H : Type} {enc : TypeId × Value → H} (W : World) (base : Nat) (v0 : Value) (d0 : DataW H) (p0 : List MemPlace) (k0 : Value.okWide Try.prog W .any base 9 v0) (h0 : DataW.Trod enc Try.prog W 0 (fun _ => true) true 9 v0 d0 p0)
    (v1 : Value) (d1 : DataW H) (p1 : List MemPlace) (k1 : Value.okWide Try.prog W .any base 22 v1) (h1 : DataW.Trod enc Try.prog W 0 (fun _ => true) true 22 v1 d1 p1) :
    Calls Try.prog 3 #[v0, v1] W fun e w' => e = .returned (.bool true) ∧ Below W.heap.size W w' := by
  obtain ⟨s, rfl, rfl, rfl, w0⟩ := open_string Try.underlying9 k0 h0
  obtain ⟨a, len, cap, f, rfl, hlc, hcm, hc⟩ := open_calls k1 h1
  exact (reads_walk s a len cap f W w0 hlc hcm hc).mono fun e w' ⟨he, ho⟩ => ⟨he, ho.below (Nat.le_refl _) (by simp)⟩
end Go.Proofs.Ytbbmmpjhpleceaa

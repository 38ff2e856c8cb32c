/- The check that every law makes: the chapter's examples. -/
import Derived.Test.YtkcjehajmofhfaaSeF
namespace Go.Proofs.Ytkcjehajmofhfaa
open Go.RowKit Go.Maps
set_option linter.unusedVariables false

theorem own_step {W w w' : World} {L L' : List Nat} (O : Only [] W w) (HL : ∀ y, y ∈ L → W.heap.size ≤ y) (ho : Only L w w') (hl : ∀ y, y ∈ L' → y ∈ L ∨ w.heap.size ≤ y) : Only [] W w' ∧ ∀ y, y ∈ L' → W.heap.size ≤ y :=
  ⟨O.trans2 ho (fun x hx => .inr (HL x hx)), fun y hy => (hl y hy).elim (HL y) (fun h => Nat.le_trans O.size h)⟩
set_option maxRecDepth 100000 in
set_option maxHeartbeats 8000000 in
theorem awake_any (w : World) : Calls Try.prog 18 #[] w fun e w' => e = .returned (.bool true) ∧ Only [] w w' := by
  go_enter Try.func18, Try.ntmps18
  go_wp2_with fail
  refine (new_any _).mono ?_
  rintro e w0 ⟨rfl, s0', o0⟩
  have S0 := hid s0'
  have O0 := hid o0
  have H0 := hid (show ∀ y, y ∈ [w.heap.size] → w.heap.size ≤ y by simp)
  clear s0' o0
  generalize hb : w.heap.size = b at *
  go_wp2_with fail
  refine (has_any S0.out (0) p0 s0 7 (r := true) (by decide +kernel)).mono ?_
  rintro e w1 ⟨rfl, ho⟩
  have O1 := hid (O0.out.trans ho)
  have S1 := hid (S0.out.only ho (by simp))
  have H1 := hid H0.out
  clear ho O0 S0 H0
  go_wp2_with fail
  refine (ppsk_any 0 3 _).mono ?_
  rintro e w2 ⟨rfl, ho⟩
  have O2 := hid (O1.out.trans ho)
  have S2 := hid (S1.out.only ho (by simp))
  have H2 := hid H1.out
  clear ho O1 S1 H1
  go_wp2_with fail
  refine (PutPps_any S2.out (pK 0 3) (by decide +kernel) (by unfold maxLen; omega)).mono ?_
  rintro e w3 ⟨rfl, L3, hs, ho, hl⟩
  obtain ⟨oo, hh⟩ := own_step O2.out (hb ▸ H2.out) ho hl
  have O3 := hid oo
  have S3 := hid hs
  have H3 := hid (show ∀ y, y ∈ L3 → b ≤ y from hb ▸ hh)
  clear ho hs hl oo hh O2 S2 H2
  go_wp2_with fail
  refine (has_any S3.out (0) p0 s0 7 (r := true) (by decide +kernel)).mono ?_
  rintro e w4 ⟨rfl, ho⟩
  have O4 := hid (O3.out.trans ho)
  have S4 := hid (S3.out.only ho (by simp))
  have H4 := hid H3.out
  clear ho O3 S3 H3
  go_wp2_with fail
  refine (spsk_any 3 1 _).mono ?_
  rintro e w5 ⟨rfl, ho⟩
  have O5 := hid (O4.out.trans ho)
  have S5 := hid (S4.out.only ho (by simp))
  have H5 := hid H4.out
  clear ho O4 S4 H4
  go_wp2_with fail
  refine (PutSps_any S5.out (sK 3 1) (by decide +kernel) (by unfold maxLen; omega)).mono ?_
  rintro e w6 ⟨rfl, L6, hs, ho, hl⟩
  obtain ⟨oo, hh⟩ := own_step O5.out (hb ▸ H5.out) ho hl
  have O6 := hid oo
  have S6 := hid hs
  have H6 := hid (show ∀ y, y ∈ L6 → b ≤ y from hb ▸ hh)
  clear ho hs hl oo hh O5 S5 H5
  go_wp2_with fail
  refine (ppsk_any 0 3 _).mono ?_
  rintro e w7 ⟨rfl, ho⟩
  have O7 := hid (O6.out.trans ho)
  have S7 := hid (S6.out.only ho (by simp))
  have H7 := hid H6.out
  clear ho O6 S6 H6
  go_wp2_with fail
  refine (spsk_any 3 1 _).mono ?_
  rintro e w8 ⟨rfl, ho⟩
  have O8 := hid (O7.out.trans ho)
  have S8 := hid (S7.out.only ho (by simp))
  have H8 := hid H7.out
  clear ho O7 S7 H7
  go_wp2_with fail
  refine (has_any S8.out (0) (pK 0 3) (sK 3 1) 0 (r := true) (by decide +kernel)).mono ?_
  rintro e w9 ⟨rfl, ho⟩
  have O9 := hid (O8.out.trans ho)
  have S9 := hid (S8.out.only ho (by simp))
  have H9 := hid H8.out
  clear ho O8 S8 H8
  go_wp2_with fail
  refine (ppsk_any 0 4 _).mono ?_
  rintro e w10 ⟨rfl, ho⟩
  have O10 := hid (O9.out.trans ho)
  have S10 := hid (S9.out.only ho (by simp))
  have H10 := hid H9.out
  clear ho O9 S9 H9
  go_wp2_with fail
  refine (PutPps_any S10.out (pK 0 4) (by decide +kernel) (by unfold maxLen; omega)).mono ?_
  rintro e w11 ⟨rfl, L11, hs, ho, hl⟩
  obtain ⟨oo, hh⟩ := own_step O10.out (hb ▸ H10.out) ho hl
  have O11 := hid oo
  have S11 := hid hs
  have H11 := hid (show ∀ y, y ∈ L11 → b ≤ y from hb ▸ hh)
  clear ho hs hl oo hh O10 S10 H10
  go_wp2_with fail
  refine (has_any S11.out (0) p0 s0 7 (r := true) (by decide +kernel)).mono ?_
  rintro e w12 ⟨rfl, ho⟩
  have O12 := hid (O11.out.trans ho)
  have S12 := hid (S11.out.only ho (by simp))
  have H12 := hid H11.out
  clear ho O11 S11 H11
  go_wp2_with fail
  refine (has_any S12.out (-1) p0 s0 3 (r := true) (by decide +kernel)).mono ?_
  rintro e w13 ⟨rfl, ho⟩
  have O13 := hid (O12.out.trans ho)
  have S13 := hid (S12.out.only ho (by simp))
  have H13 := hid H12.out
  clear ho O12 S12 H12
  go_wp2_with fail
  refine (has_any S13.out (32) p0 s0 3 (r := true) (by decide +kernel)).mono ?_
  rintro e w14 ⟨rfl, ho⟩
  have O14 := hid (O13.out.trans ho)
  have S14 := hid (S13.out.only ho (by simp))
  have H14 := hid H13.out
  clear ho O13 S13 H13
  go_wp2_with fail
  refine (PutSps_no S14.out s0 (by decide +kernel)).mono ?_
  rintro e w15 ⟨rfl, L15, hs, ho, hl⟩
  obtain ⟨oo, hh⟩ := own_step O14.out (hb ▸ H14.out) ho hl
  have O15 := hid oo
  have S15 := hid hs
  have H15 := hid (show ∀ y, y ∈ L15 → b ≤ y from hb ▸ hh)
  clear ho hs hl oo hh O14 S14 H14
  go_wp2_with fail
  go_ret
  exact ⟨rfl, O15.out⟩
end Go.Proofs.Ytkcjehajmofhfaa

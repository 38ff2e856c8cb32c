/- The program's Decode. Condition: at most 50,000 bytes. -/
import Derived.Test.YtghdnefaempigaaDoorDecM
import Derived.Test.YtghdnefaempigaaDoorUn
namespace Go.Proofs.YtghdnefaempigaaDoor
open Go.RowKit
set_option linter.unusedVariables false

set_option maxHeartbeats 1000000 in
theorem dec_none (s : ByteArray) (w : World) (h : s.size = 0) :
    Calls Tryd.prog 14 #[.string s] w fun e w' => e = .returned (decV s) ∧ Only [] w w' := by
  unfold decV
  rw [dec_empty s h]
  obtain rfl : s = ⟨#[]⟩ := by apply ByteArray.ext; exact Array.eq_empty_of_size_eq_zero h
  go_enter Tryd.func14, Tryd.ntmps14
  go_wp2
  refine bodyPost_ret (results_unit rfl _ _ w.heap.size 0 0 ⟨#[]⟩ _ rfl rfl (by simp) (by simp) (by simp)) rfl ⟨rfl, (Only.refl [] w).alloc _⟩
set_option maxHeartbeats 2000000 in
theorem dec_some (s : ByteArray) (w : World) (h : 0 < s.size) (hs : s.size ≤ 50000) :
    Calls Tryd.prog 14 #[.string s] w fun e w' => e = .returned (decV s) ∧ Only [] w w' := by
  have hne := empty_no s h
  have FT := hid (fun w => fit_any s w h (by omega))
  have UT := hid (fun w => un_any (s.extract 1 s.size) w (by simp; omega))
  obtain ⟨V, hV⟩ : ∃ V, V = decV s := ⟨_, rfl⟩
  unfold decV at hV
  rw [dec_fit s h] at hV
  have DV : V = decV s := by unfold decV; rw [dec_fit s h]; exact hV
  rw [← DV]
  clear DV
  by_cases hf : fitB s h = true
  · rw [if_pos hf] at hV
    cases hu : unesc (s.extract 1 s.size).data.toList with
    | none =>
      rw [hu] at hV
      have hU : unR (s.extract 1 s.size).data.toList = (⟨#[]⟩, 4) := by unfold unR; rw [hu]
      rw [hU] at UT
      have HV := hid hV
      clear hV hu hU
      go_enter Tryd.func14, Tryd.ntmps14
      go_wp2_with (first
        | (go_at_call 26; refine (FT.out _).mono ?_; rintro e w' ⟨rfl, rfl⟩; rw [hf])
        | (go_at_call 12; refine (UT.out _).mono ?_; rintro e w3 ⟨rfl, ho3⟩; have hc3 := (only_cell ho3).1; have hf3 := (only_cell ho3).2.1; have hz3 := (only_cell ho3).2.2; have O3 := hid ho3; clear ho3))
      have O1 := ((Only.refl [] w).alloc (.cells #[.int .u8 0, .int .u8 0, .string ⟨#[]⟩] 27)).trans O3.out
      exact unit_end rfl w w3 w.heap.size 0 0 ⟨#[]⟩ 4 V (.int .u8 0) (.int .u8 0) (.string ⟨#[]⟩) HV.out _ rfl rfl O1 (Nat.le_refl _) (by rw [hc3 _ _ (by simp)]; simp) (by rw [hc3 _ _ (by simp)]; simp) (by rw [hc3 _ _ (by simp)]; simp)
    | some p =>
      rw [hu] at hV
      have hU : unR (s.extract 1 s.size).data.toList = (bytesOf p, 0) := by unfold unR; rw [hu]
      rw [hU] at UT
      have HV := hid hV
      clear hV hu hU
      go_enter Tryd.func14, Tryd.ntmps14
      go_wp2_with (first
        | (go_at_call 26; refine (FT.out _).mono ?_; rintro e w' ⟨rfl, rfl⟩; rw [hf])
        | (go_at_call 12; refine (UT.out _).mono ?_; rintro e w3 ⟨rfl, ho3⟩; have hc3 := (only_cell ho3).1; have hf3 := (only_cell ho3).2.1; have hz3 := (only_cell ho3).2.2; have O3 := hid ho3; clear ho3))
      have hsI : (0 : Int) < (s.size : Int) := by omega
      have HA := and_all s[0]
      have O1 := ((Only.refl [] w).alloc (.cells #[.int .u8 0, .int .u8 0, .string ⟨#[]⟩] 27)).trans O3.out
      have O1 := hid O1
      go_region
      go_wp2_with fail
      exact unit_end_d rfl w w3 w.heap.size _ _ (bytesOf p) 0 V (.int .u8 0) (.int .u8 0) (.string ⟨#[]⟩) (by rw [HV.out]; rfl) _ rfl rfl O1.out (Nat.le_refl _) (by rw [hc3 _ _ (by simp)]; simp) (by rw [hc3 _ _ (by simp)]; simp) (by rw [hc3 _ _ (by simp)]; simp)
  · rw [if_neg hf] at hV
    have hf : fitB s h = false := by simpa using hf
    have HV := hid hV
    clear hV
    go_enter Tryd.func14, Tryd.ntmps14
    go_wp2_with (go_at_call 26; refine (FT.out _).mono ?_; rintro e w' ⟨rfl, rfl⟩; rw [hf])
    refine bodyPost_ret (results_unit rfl _ _ _ 0 0 ⟨#[]⟩ (.int .i64 4) rfl rfl (by simp) (by simp) (by simp)) rfl ⟨by rw [HV.out], (Only.refl [] _).alloc _⟩
theorem dec_any (s : ByteArray) (w : World) (hs : s.size ≤ 50000) : Calls Tryd.prog 14 #[.string s] w fun e w' => e = .returned (decV s) ∧ Only [] w w' := by
  by_cases h : s.size = 0
  · exact dec_none s w h
  · exact dec_some s w (by omega) hs
end Go.Proofs.YtghdnefaempigaaDoor

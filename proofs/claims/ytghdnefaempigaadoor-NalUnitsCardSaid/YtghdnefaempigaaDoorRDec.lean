/- The reference's Decode. Condition: at most 50,000 bytes. -/
import Derived.Test.YtghdnefaempigaaDoorDecM
import Derived.Test.YtghdnefaempigaaDoorREnc
namespace Go.Proofs.YtghdnefaempigaaDoor
open Go.RowKit
set_option linter.unusedVariables false

theorem enc_back (s : ByteArray) (h : 0 < s.size) (p : List UInt8) (hp : unesc (s.extract 1 s.size).data.toList = some p) :
    (fitB s h = true → encR ((s[0]).toNat / 32) ((s[0]).toNat % 32) p = (s, 0)) ∧ (fitB s h = false → (encR ((s[0]).toNat / 32) ((s[0]).toNat % 32) p).2 ≠ 0) := by
  have he := (unesc_iff _ _).1 hp
  have hd : 32 * ((s[0]).toNat / 32) + (s[0]).toNat % 32 = (s[0]).toNat := Nat.div_add_mod _ 32
  have hu : unitL ((s[0]).toNat / 32) ((s[0]).toNat % 32) p = s.data.toList := by
    unfold unitL
    rw [hd, he, list_at s h]
    congr 1
    simp
  have hlt : (s[0]).toNat < 256 := (s[0]).toNat_lt
  have h0 : s[0] = 0 ↔ (s[0]).toNat = 0 := by rw [← UInt8.toNat_inj]; rfl
  unfold encR
  rw [hu, last_at s h, hd]
  unfold fitB
  constructor
  · intro hf
    simp only [Bool.and_eq_true, decide_eq_true_eq] at hf
    obtain ⟨⟨a, b⟩, c⟩ := hf
    rw [if_neg (by omega), if_neg (by
      rintro (e | e)
      · exact a (h0.2 e)
      · exact c (by simpa using e)), bytesOf_data]
  · intro hf
    by_cases hb : (s[0]).toNat ≤ 127
    · rw [if_neg (by omega), if_pos (by
        by_cases a : s[0] = 0
        · exact .inl (h0.1 a)
        · refine .inr ?_
          simpa [hb, a] using hf)]
      simp
    · rw [if_pos (by omega)]
      simp

/-- A block's cells, behind a new block and a call that makes memory. -/
theorem past_alloc {w3 w5 : World} {o : Obj} (h : Only [] (w3.alloc o).drew w5) (b : Nat) (hb : b < w3.heap.size) : (∀ i, w5.cell? ⟨b, i, none⟩ = w3.cell? ⟨b, i, none⟩) ∧ (∀ i, w5.frozen? ⟨b, i, none⟩ = w3.frozen? ⟨b, i, none⟩) := by
  have h1 : w5.heap[b]? = w3.heap[b]? := (h.block b (by simp; omega) (by simp)).trans (Below.heap_alloc _ _ _ hb)
  exact ⟨fun i => World.cell?_of_block (w := w3) h1, fun i => World.frozen?_of_block (w := w3) h1⟩
theorem first_unit {w w3 : World} {t : TypeId} {v0 v1 v2 : Value} (h : Only [] (w.alloc (.cells #[v0, v1, v2] t)) w3) : w.heap.size < w3.heap.size ∧ (w3.cell? ⟨w.heap.size, 0, none⟩ = some v0 ∧ w3.cell? ⟨w.heap.size, 1, none⟩ = some v1 ∧ w3.cell? ⟨w.heap.size, 2, none⟩ = some v2) ∧
    (w3.frozen? ⟨w.heap.size, 0, none⟩ = false ∧ w3.frozen? ⟨w.heap.size, 1, none⟩ = false ∧ w3.frozen? ⟨w.heap.size, 2, none⟩ = false) := by
  obtain ⟨hc, hf, hz⟩ := only_cell h
  have hz' : w.heap.size + 1 ≤ w3.heap.size := by simpa using hz
  refine ⟨by omega, ⟨?_, ?_, ?_⟩, ?_, ?_, ?_⟩
  · rw [hc _ _ (by simp)]; simp
  · rw [hc _ _ (by simp)]; simp
  · rw [hc _ _ (by simp)]; simp
  · rw [hf _ _ (by simp)]; simp
  · rw [hf _ _ (by simp)]; simp
  · rw [hf _ _ (by simp)]; simp
set_option maxHeartbeats 1000000 in
theorem rdec_none (s : ByteArray) (w : World) (h : s.size = 0) :
    Calls Tryd.prog 15 #[.string s] w fun e w' => e = .returned (decV s) ∧ Only [] w w' := by
  unfold decV
  rw [dec_empty s h]
  obtain rfl : s = ⟨#[]⟩ := by apply ByteArray.ext; exact Array.eq_empty_of_size_eq_zero h
  go_enter Tryd.func15, Tryd.ntmps15
  go_wp2
  refine bodyPost_ret (results_unit rfl _ _ w.heap.size 0 0 ⟨#[]⟩ _ rfl rfl (by simp) (by simp) (by simp)) rfl ⟨rfl, (Only.refl [] w).alloc _⟩
set_option maxHeartbeats 2000000 in
theorem rdec_some (s : ByteArray) (w : World) (h : 0 < s.size) (hs : s.size ≤ 50000) :
    Calls Tryd.prog 15 #[.string s] w fun e w' => e = .returned (decV s) ∧ Only [] w w' := by
  have hne := empty_no s h
  have UT := hid (fun w => runescape_any (s.extract 1 s.size) w (by simp; omega))
  obtain ⟨V, hV⟩ : ∃ V, V = decV s := ⟨_, rfl⟩
  unfold decV at hV
  rw [dec_fit s h] at hV
  have DV : V = decV s := by unfold decV; rw [dec_fit s h]; exact hV
  rw [← DV]
  clear DV
  cases hu : unesc (s.extract 1 s.size).data.toList with
  | none =>
    rw [hu] at hV
    have hV : V = .tuple #[.agg #[.int .u8 0, .int .u8 0, .string ⟨#[]⟩], .int .i64 4] := by rw [hV]; split <;> rfl
    have hU : unR (s.extract 1 s.size).data.toList = (⟨#[]⟩, 4) := by unfold unR; rw [hu]
    rw [hU] at UT
    have HV := hid hV
    clear hV hu hU
    go_enter Tryd.func15, Tryd.ntmps15
    go_wp2_with (go_at_call 13; refine (UT.out _).mono ?_; rintro e w3 ⟨rfl, ho3⟩; have hc3 := (only_cell ho3).1; have hf3 := (only_cell ho3).2.1; have hz3 := (only_cell ho3).2.2; have O3 := hid ho3; clear ho3)
    have O1 := ((Only.refl [] w).alloc (.cells #[.int .u8 0, .int .u8 0, .string ⟨#[]⟩] 27)).trans O3.out
    exact unit_end rfl w w3 w.heap.size 0 0 ⟨#[]⟩ 4 V (.int .u8 0) (.int .u8 0) (.string ⟨#[]⟩) HV.out _ rfl rfl O1 (Nat.le_refl _) (by rw [hc3 _ _ (by simp)]; simp) (by rw [hc3 _ _ (by simp)]; simp) (by rw [hc3 _ _ (by simp)]; simp)
  | some p =>
    rw [hu] at hV
    have hU : unR (s.extract 1 s.size).data.toList = (bytesOf p, 0) := by unfold unR; rw [hu]
    rw [hU] at UT
    have EB := enc_back s h p hu
    have hpl : p.length ≤ 50000 := by
      have h1 := (unesc_iff _ _).1 hu
      have h2 := (esc_len p).1
      rw [h1] at h2
      simp at h2
      omega
    obtain ⟨r, hr⟩ : ∃ r, r = (s[0]).toNat / 32 := ⟨_, rfl⟩
    obtain ⟨k, hk⟩ : ∃ k, k = (s[0]).toNat % 32 := ⟨_, rfl⟩
    have hlt : (s[0]).toNat < 256 := (s[0]).toNat_lt
    have hrI : ((s[0]).toNat : Int) / 32 = (r : Int) := by omega
    have hkI : ((s[0]).toNat : Int) % 32 = (k : Int) := by omega
    have hp0 : (0 : Int) ≤ ((s[0]).toNat : Int) := by omega
    rw [← hr, ← hk] at EB hV
    have EN := hid (fun w => rencode_any r k (bytesOf p) w (by omega) (by omega) (by rw [size_bytesOf]; omega))
    rw [show (bytesOf p).data.toList = p from by simp [bytesOf]] at EN
    obtain ⟨E, hE⟩ : ∃ E, E = encR r k p := ⟨_, rfl⟩
    rw [← hE] at EN EB
    obtain ⟨xs, xe⟩ := E
    have hsI : (0 : Int) < (s.size : Int) := by omega
    have hr6 : (r : Int) % 256 = (r : Int) := by omega
    clear hu hU hr hk hE hlt
    cases hf : fitB s h with
    | true =>
      have EE := EB.1 hf
      simp only [Prod.mk.injEq] at EE
      obtain ⟨rfl, rfl⟩ := EE
      rw [if_pos hf] at hV
      have HV := hid hV
      clear hV EB hf
      go_enter Tryd.func15, Tryd.ntmps15
      go_wp2_with (go_at_call 13; refine (UT.out _).mono ?_; rintro e w3 ⟨rfl, ho3⟩; obtain ⟨z3, ⟨a0, a1, a2⟩, f0, f1, f2⟩ := first_unit ho3; have O3 := hid ho3; clear ho3)
      go_region
      go_wp2_with (go_at_call 19; refine (EN.out _).mono ?_; rintro e w5 ⟨rfl, ho5⟩; obtain ⟨k5, l5⟩ := past_alloc ho5 w.heap.size z3; have m5 := (only_cell ho5).1; have b0 := (k5 0).trans a0; have b1 := (k5 1).trans a1; have b2 := (k5 2).trans a2; have g0 := (l5 0).trans f0; have g1 := (l5 1).trans f1; have g2 := (l5 2).trans f2; have O5 := hid ho5; clear ho5 k5 l5)
      have O1 := ((((Only.refl [] w).alloc (.cells #[.int .u8 0, .int .u8 0, .string ⟨#[]⟩] 27)).trans O3.out).alloc (.cells #[.int .u8 r, .int .u8 k, .string (bytesOf p)] 27)).drew.trans O5.out
      exact unit_end rfl w w5 w.heap.size r k (bytesOf p) 0 V _ _ _ HV.out _ rfl rfl O1 (Nat.le_refl _) b0 b1 b2
    | false =>
      have EE := EB.2 hf
      simp only [] at EE
      rw [if_neg (by rw [hf]; simp)] at hV
      have HV := hid hV
      clear hV EB hf
      go_enter Tryd.func15, Tryd.ntmps15
      go_wp2_with (go_at_call 13; refine (UT.out _).mono ?_; rintro e w3 ⟨rfl, ho3⟩; obtain ⟨z3, ⟨a0, a1, a2⟩, f0, f1, f2⟩ := first_unit ho3; have O3 := hid ho3; clear ho3)
      go_region
      go_wp2_with (go_at_call 19; refine (EN.out _).mono ?_; rintro e w5 ⟨rfl, ho5⟩; obtain ⟨k5, l5⟩ := past_alloc ho5 w.heap.size z3; have m5 := (only_cell ho5).1; have b0 := (k5 0).trans a0; have b1 := (k5 1).trans a1; have b2 := (k5 2).trans a2; have g0 := (l5 0).trans f0; have g1 := (l5 1).trans f1; have g2 := (l5 2).trans f2; have O5 := hid ho5; clear ho5 k5 l5)
      have O1 := ((((Only.refl [] w).alloc (.cells #[.int .u8 0, .int .u8 0, .string ⟨#[]⟩] 27)).trans O3.out).alloc (.cells #[.int .u8 r, .int .u8 k, .string (bytesOf p)] 27)).drew.trans O5.out
      exact unit_end rfl w w5 w.heap.size 0 0 ⟨#[]⟩ 4 V _ _ _ HV.out _ rfl rfl O1 (Nat.le_refl _) b0 b1 b2
theorem rdec_any (s : ByteArray) (w : World) (hs : s.size ≤ 50000) : Calls Tryd.prog 15 #[.string s] w fun e w' => e = .returned (decV s) ∧ Only [] w w' := by
  by_cases h : s.size = 0
  · exact rdec_none s w h
  · exact rdec_some s w (by omega) hs
end Go.Proofs.YtghdnefaempigaaDoor

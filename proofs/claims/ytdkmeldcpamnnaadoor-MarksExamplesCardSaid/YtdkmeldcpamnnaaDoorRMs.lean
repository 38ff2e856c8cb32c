/- The reference's Scan: Ue and Kind; and a round of Read in plain words. -/
import Derived.Test.YtdkmeldcpamnnaaDoorRMw
import Derived.Test.YtdkmeldcpamnnaaDoorRe
namespace Go.Proofs.YtdkmeldcpamnnaaDoor
open Go.RowKit
set_option linter.unusedVariables false

/-- A scan at block D over the reader c, with the error E. -/
structure Sc (w : World) (D c : Nat) (E : Int) : Prop where
  r : w.cell? ⟨D, 0, none⟩ = some (.pointer (some ⟨c, 0, none⟩))
  e : w.cell? ⟨D, 1, none⟩ = some (.int .i64 E)
  f : w.frozen? ⟨D, 1, none⟩ = false
theorem Sc.lt {w : World} {D c : Nat} {E : Int} (h : Sc w D c E) : D < w.heap.size := World.block_lt_of_cell? _ _ h.r
theorem Sc.only {S : List Nat} {w w' : World} {D c : Nat} {E : Int} (h : Sc w D c E) (k : Only S w w') (hb : D ∉ S) : Sc w' D c E := ⟨k.cell h.r hb, k.cell h.e hb, (k.frozen h.lt hb).trans h.f⟩
theorem Sc.drewN {w : World} {D c : Nat} {E : Int} (h : Sc w D c E) (n : Nat) : Sc (w.drewN n) D c E := ⟨h.r, h.e, h.f⟩
theorem Sc.set {w : World} {D c : Nat} {E : Int} (h : Sc w D c E) (F : Int) : Sc (w.setCell ⟨D, 1, none⟩ (.int .i64 F)) D c F :=
  ⟨by rw [World.cell?_setCell_other _ _ _ _ (by simp)]; exact h.r, World.cell?_setCell_same _ _ _ h.e, by simp [h.f]⟩
/-- What Ue of a scan answers, and leaves. -/
def ueS (s : ByteArray) (E : Int) (q : Nat) : Int × Int × Nat := if E ≠ 0 then (0, E, q) else ((rdUk s q 0).1, (rdUk s q 0).2.1, (rdUk s q 0).2.2)
set_option maxHeartbeats 1000000 in
theorem sue_any (D c : Nat) (s : ByteArray) (q : Nat) (E : Int) (w : World) (h : Sc w D c E) (hr : Rd w c s q) (hne : D ≠ c) :
    Calls Tryd.prog 44 #[.pointer (some ⟨D, 0, none⟩)] w fun e w' => e = .returned (.int .i64 (ueS s E q).1) ∧ Sc w' D c (ueS s E q).2.1 ∧ Rd w' c s (ueS s E q).2.2 ∧ Only [c, D] w w' := by
  obtain ⟨hr0, he0, hf0⟩ := h
  have H := hid (Sc.mk hr0 he0 hf0)
  have R := hid hr
  by_cases hE : E = 0
  · subst hE
    rw [show ueS s 0 q = (((rdUk s q 0).1 : Int), (rdUk s q 0).2.1, (rdUk s q 0).2.2) from by simp [ueS]]
    have U := hid (rue_any c s q w hr)
    have hlt := rdUk_lt s q 0
    have p32 : (2 : Nat) ^ (32 + 0) = 4294967296 := by decide
    rw [p32] at hlt
    generalize rdUk s q 0 = r at *
    obtain ⟨v, e, p⟩ := r
    dsimp only at *
    have v1 : (v : Int) ≤ 4294967295 := by omega
    have v0 : (0 : Int) ≤ (v : Int) := by omega
    clear hlt p32 hr
    go_enter Tryd.func44, Tryd.ntmps44
    go_wp2_with fail
    refine U.out.mono ?_
    rintro e1 w1 ⟨rfl, hR1, hO1⟩
    have S1 := hid (H.out.only hO1 (by simpa using hne))
    have R1 := hid hR1
    have O1 := hid hO1
    have e0 := S1.out.e
    have f0 := S1.out.f
    clear hr0 he0 hf0 hR1 hO1
    go_wp2_with fail
    go_ret
    exact ⟨rfl, S1.out.set e, R1.out.only ((Only.refl [D] _).setCell (.inl (by simp)) _) (by simpa using fun h => hne h.symm), (O1.out.mono (fun k _ h => by simp at h; simp [h])).trans (((Only.refl [D] _).setCell (.inl (by simp)) _).mono (fun k _ h => by simp at h; simp [h]))⟩
  · rw [show ueS s E q = (0, E, q) from by simp [ueS, hE]]
    clear hr
    go_enter Tryd.func44, Tryd.ntmps44
    go_wp2_with fail
    go_ret
    exact ⟨rfl, H.out, R.out, Only.refl _ _⟩
/-- What Kind leaves. -/
def kindS (E : Int) (is : Bool) : Int := if E = 0 ∧ is = false then 9 else E
set_option maxHeartbeats 1000000 in
theorem skind_any (D c : Nat) (E : Int) (is : Bool) (w : World) (h : Sc w D c E) :
    Calls Tryd.prog 45 #[.pointer (some ⟨D, 0, none⟩), .bool is] w fun e w' => (∃ v, e = .returned v) ∧ Sc w' D c (kindS E is) ∧ Only [D] w w' := by
  obtain ⟨hr0, he0, hf0⟩ := h
  have H := hid (Sc.mk hr0 he0 hf0)
  by_cases hE : E = 0
  · subst hE
    cases is with
    | true =>
      rw [show kindS 0 true = 0 from by simp [kindS]]
      go_enter Tryd.func45, Tryd.ntmps45
      go_wp2_with fail
      exact bodyPost_end (results_none rfl _ _ _) rfl ⟨⟨_, rfl⟩, H.out, Only.refl _ _⟩
    | false =>
      rw [show kindS 0 false = 9 from by simp [kindS]]
      go_enter Tryd.func45, Tryd.ntmps45
      go_wp2_with fail
      exact bodyPost_end (results_none rfl _ _ _) rfl ⟨⟨_, rfl⟩, H.out.set 9, (Only.refl [D] _).setCell (.inl (by simp)) _⟩
  · rw [show kindS E is = E from by simp [kindS, hE]]
    go_enter Tryd.func45, Tryd.ntmps45
    go_wp2_with fail
    exact bodyPost_end (results_none rfl _ _ _) rfl ⟨⟨_, rfl⟩, H.out, Only.refl _ _⟩
end Go.Proofs.YtdkmeldcpamnnaaDoor

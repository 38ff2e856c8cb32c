/- The program's slices.Clone at its three types. -/
import Derived.Test.YtfmfknjjhemnoaaNrD
namespace Go.Proofs.Ytfmfknjjhemnoaa
open Go.RowKit
set_option linter.unusedVariables false
set_option linter.unusedSimpArgs false

def inC (x : Int) : List Value := [.int .i64 x]
theorem inC_ok : CellsN inC 1 := ⟨fun _ => rfl, fun x u h => by simp [inC] at h; subst h; rfl, by omega⟩
theorem inN_row : RowType Try.prog 36 3 (.int .i64 0) 1 8 := ⟨by kernel_rfl, by kernel_rfl, rfl, by omega⟩
theorem cellsG_in (l : List Int) : cellsG inC l = l.map (.int .i64) := by
  induction l with
  | nil => rfl
  | cons x l ih => rw [cellsG, ih]; rfl
theorem RowG.toI {w : World} {sv : Value} {l : List Int} (h : RowG inC 1 3 w sv l) : RowI w sv l := by
  unfold RowG at h
  rw [cellsG_in] at h
  exact h
theorem RowI.toG {w : World} {sv : Value} {l : List Int} (h : RowI w sv l) : RowG inC 1 3 w sv l := by
  unfold RowG
  rw [cellsG_in]
  exact h
/-- A copy behind an empty slice that is not nil. -/
theorem append_cloneW (w : World) (a : Addr) (c : Nat) (vs : List Int) (hb : HoldsI .i64 w (.slice (some a) vs.length c) vs) (hl : vs.length ≤ 17592186043904) :
    ∃ sv w', (Builtin.append_ #[36, 36] 36 #[.slice (some ⟨w.heap.size, 0, none⟩) 0 0, .slice (some a) vs.length c]).run Try.prog (w.alloc (.cells #[] 3)) = .ok sv w' ∧ RowI w' sv vs ∧ (∀ g, g ∈ ownI sv → w.heap.size ≤ g) ∧ Only [] w w' := by
  have r0 : RowG inC 1 3 (w.alloc (.cells #[] 3)) (.slice (some ⟨w.heap.size, 0, none⟩) 0 0) [] := rowG_lit inC_ok w 3 [] (by unfold maxLen; simp)
  have o0 : Only [] w (w.alloc (.cells #[] 3)) := (Only.refl [] w).alloc _
  have b0 := hb.only0 o0
  by_cases h0 : vs = []
  · subst h0
    obtain ⟨sv, w', h1, h2, h3, h4⟩ := append_rowsG inC_ok inN_row _ (.slice (some a) 0 c) [] [] r0 ⟨some a, c, rfl, Nat.zero_le _, by obtain ⟨_, _, e, _, h, _⟩ := hb; cases e; exact h, .inl rfl⟩ (by simp)
    refine ⟨sv, w', h1, h2.toI, fun g hg => ?_, o0.trans2 h3 (fun g hg => .inr (by simp [ownG, Value.ownBlock] at hg; omega))⟩
    rcases h4 g (by unfold ownI at hg; unfold ownG; cases h : sv.ownBlock <;> simp [h] at hg ⊢ <;> exact hg) with e | e
    · simp [ownG, Value.ownBlock] at e; omega
    · simp at e; omega
  · obtain ⟨b, o, k, e, _, _, hc⟩ := b0.open (List.length_pos_iff.2 h0)
    cases e
    obtain ⟨sv, w', h1, h2, h3, h4⟩ := run_append_intsW (w.alloc (.cells #[] 3)) 36 _ [] r0.toI ⟨b, o, none⟩ c vs (fun j v hj => by
      rw [List.getElem?_map] at hj
      obtain ⟨x, hx, rfl⟩ := Option.map_eq_some_iff.1 hj
      rw [addI]
      exact hc j x hx) (by simpa using hl)
    refine ⟨sv, w', h1, by simpa using h2, fun g hg => ?_, o0.trans2 h3 (fun g hg => .inr (by simp [ownI, Value.ownBlock] at hg; omega))⟩
    rcases h4 g hg with e | e
    · simp [ownI, Value.ownBlock] at e; omega
    · simp at e; omega
theorem append_cloneG {α : Type} {C : α → List Value} {n : Nat} {T E : TypeId} {z : Value} {bytes : Nat} (K : CellsN C n) (H : RowType Try.prog T E z n bytes) (w : World) (a : Addr) (c : Nat) (vs : List α) (hb : HoldsG C n w (.slice (some a) vs.length c) vs) (hl : vs.length ≤ 1000000) :
    ∃ sv w', (Builtin.append_ #[T, T] T #[.slice (some ⟨w.heap.size, 0, none⟩) 0 0, .slice (some a) vs.length c]).run Try.prog (w.alloc (.cells #[] E)) = .ok sv w' ∧ RowG C n E w' sv vs ∧ (∀ g, g ∈ ownG sv → w.heap.size ≤ g) ∧ Only [] w w' := by
  have r0 : RowG C n E (w.alloc (.cells #[] E)) (.slice (some ⟨w.heap.size, 0, none⟩) 0 0) [] := rowG_lit K w E [] (by unfold maxLen; simp)
  have o0 : Only [] w (w.alloc (.cells #[] E)) := (Only.refl [] w).alloc _
  obtain ⟨sv, w', h1, h2, h3, h4⟩ := append_rowsG K H _ (.slice (some a) vs.length c) [] vs r0 (hb.only0 o0) (by simpa using hl)
  refine ⟨sv, w', h1, h2, fun g hg => ?_, o0.trans2 h3 (fun g hg => .inr (by simp [ownG, Value.ownBlock] at hg; omega))⟩
  rcases h4 g hg with e | e
  · simp [ownG, Value.ownBlock] at e; omega
  · simp at e; omega
theorem run_bs0 (T E : TypeId) (w : World) (hT : Try.prog.underlying T = some (.slice E)) (hr : (Instr.buildSlice T 0 #[]).run Try.prog w = .ok (.slice (some ⟨w.heap.size, 0, none⟩) 0 0) (w.alloc (.cells #[] E))) : (Instr.buildSlice T 0 #[]).run Try.prog w = .ok (.slice (some ⟨w.heap.size, 0, none⟩) 0 0) (w.alloc (.cells #[] E)) := hr
theorem clonei_any_g (x y : Operand) (a : Option Addr) (n c : Nat) (w : World) : (eqGuard .eql 36 x y (.slice a n c) (.slice none 0 0)).run Try.prog w = .ok () w := by kernel_rfl
theorem clonei_any_t (n c : Nat) (w : World) : (binOp .eql 36 (.slice none n c) (.slice none 0 0)).run Try.prog w = .ok (.bool true) w := by kernel_rfl
theorem clonei_any_f (a : Addr) (n c : Nat) (w : World) : (binOp .eql 36 (.slice (some a) n c) (.slice none 0 0)).run Try.prog w = .ok (.bool false) w := by kernel_rfl
set_option maxRecDepth 100000 in
theorem clonei_any (b : Value) (vs : List Int) (w : World) (hb : HoldsI .i64 w b vs) (hl : vs.length ≤ 17592186043904) :
    Calls Try.prog 43 #[b] w fun e w' => ∃ sv, e = .returned sv ∧ RowI w' sv vs ∧ (∀ g, g ∈ ownI sv → w.heap.size ≤ g) ∧ Only [] w w' := by
  have HB := hid hb
  obtain ⟨a, c, rfl, _, _, h3⟩ := hb
  cases a with
  | none =>
    obtain rfl : vs = [] := by
      rcases h3 with h | ⟨_, _, h, _⟩
      · exact h
      · cases h
    clear h3 HB hl
    go_enter Try.func43, Try.ntmps43
    go_wp2_with (refine wp_bin_eq (by kernel_rfl) .eql 36 (.tmp 3) (.const (.slice none 0 0)) _ rfl _ _ _ rfl rfl (clonei_any_g _ _ _ _ _ _) (clonei_any_t _ _ _) ?_; simp only [Act.put, List.setIfInBounds_toArray, List.set_cons_zero, List.set_cons_succ])
    go_ret
    exact ⟨_, rfl, RowI.nil _, by simp [ownI, Value.ownBlock], Only.refl _ _⟩
  | some a =>
    obtain ⟨sv, w2, hrun, hrow, hown, honly⟩ := append_cloneW w a c vs HB.out hl
    have RUN := hid hrun
    have ROW := hid hrow
    have OW := hid hown
    have ON := hid honly
    clear hrun hrow hown honly h3 hl HB
    go_enter Try.func43, Try.ntmps43
    go_wp2_with (first
      | (refine wp_bin_eq (by kernel_rfl) .eql 36 (.tmp 3) (.const (.slice none 0 0)) _ rfl _ _ _ rfl rfl (clonei_any_g _ _ _ _ _ _) (clonei_any_f _ _ _ _) ?_; simp only [Act.put, List.setIfInBounds_toArray, List.set_cons_zero, List.set_cons_succ])
      | (at_builtin; refine wp_append_eq (by kernel_rfl) (.tmp 5) (.tmp 6) _ _ rfl _ _ sv w2 rfl rfl RUN.out ?_; simp only [Act.put, List.setIfInBounds_toArray, List.set_cons_zero, List.set_cons_succ]))
    go_ret
    exact ⟨_, rfl, ROW.out, OW.out, ON.out⟩
theorem clonev_any_g (x y : Operand) (a : Option Addr) (n c : Nat) (w : World) : (eqGuard .eql 37 x y (.slice a n c) (.slice none 0 0)).run Try.prog w = .ok () w := by kernel_rfl
theorem clonev_any_t (n c : Nat) (w : World) : (binOp .eql 37 (.slice none n c) (.slice none 0 0)).run Try.prog w = .ok (.bool true) w := by kernel_rfl
theorem clonev_any_f (a : Addr) (n c : Nat) (w : World) : (binOp .eql 37 (.slice (some a) n c) (.slice none 0 0)).run Try.prog w = .ok (.bool false) w := by kernel_rfl
set_option maxRecDepth 100000 in
theorem clonev_any (b : Value) (vs : List (Int × Int)) (w : World) (hb : HoldsG vcC 2 w b vs) (hl : vs.length ≤ 1000000) :
    Calls Try.prog 44 #[b] w fun e w' => ∃ sv, e = .returned sv ∧ RowG vcC 2 71 w' sv vs ∧ (∀ g, g ∈ ownG sv → w.heap.size ≤ g) ∧ Only [] w w' := by
  have HB := hid hb
  obtain ⟨a, c, rfl, _, _, h3⟩ := hb
  cases a with
  | none =>
    obtain rfl : vs = [] := by
      rcases h3 with h | ⟨_, _, h, _⟩
      · exact h
      · cases h
    clear h3 HB hl
    go_enter Try.func44, Try.ntmps44
    go_wp2_with (refine wp_bin_eq (by kernel_rfl) .eql 37 (.tmp 3) (.const (.slice none 0 0)) _ rfl _ _ _ rfl rfl (clonev_any_g _ _ _ _ _ _) (clonev_any_t _ _ _) ?_; simp only [Act.put, List.setIfInBounds_toArray, List.set_cons_zero, List.set_cons_succ])
    go_ret
    exact ⟨_, rfl, RowG.nil _, by simp [ownG, Value.ownBlock], Only.refl _ _⟩
  | some a =>
    obtain ⟨sv, w2, hrun, hrow, hown, honly⟩ := append_cloneG vcC_ok vc_row w a c vs HB.out hl
    have RUN := hid hrun
    have ROW := hid hrow
    have OW := hid hown
    have ON := hid honly
    clear hrun hrow hown honly h3 hl HB
    go_enter Try.func44, Try.ntmps44
    go_wp2_with (first
      | (refine wp_bin_eq (by kernel_rfl) .eql 37 (.tmp 3) (.const (.slice none 0 0)) _ rfl _ _ _ rfl rfl (clonev_any_g _ _ _ _ _ _) (clonev_any_f _ _ _ _) ?_; simp only [Act.put, List.setIfInBounds_toArray, List.set_cons_zero, List.set_cons_succ])
      | (at_builtin; refine wp_append_eq (by kernel_rfl) (.tmp 5) (.tmp 6) _ _ rfl _ _ sv w2 rfl rfl RUN.out ?_; simp only [Act.put, List.setIfInBounds_toArray, List.set_cons_zero, List.set_cons_succ]))
    go_ret
    exact ⟨_, rfl, ROW.out, OW.out, ON.out⟩
theorem cloneb_any_g (x y : Operand) (a : Option Addr) (n c : Nat) (w : World) : (eqGuard .eql 38 x y (.slice a n c) (.slice none 0 0)).run Try.prog w = .ok () w := by kernel_rfl
theorem cloneb_any_t (n c : Nat) (w : World) : (binOp .eql 38 (.slice none n c) (.slice none 0 0)).run Try.prog w = .ok (.bool true) w := by kernel_rfl
theorem cloneb_any_f (a : Addr) (n c : Nat) (w : World) : (binOp .eql 38 (.slice (some a) n c) (.slice none 0 0)).run Try.prog w = .ok (.bool false) w := by kernel_rfl
set_option maxRecDepth 100000 in
theorem cloneb_any (b : Value) (vs : List SlV) (w : World) (hb : HoldsG slC 1 w b vs) (hl : vs.length ≤ 1000000) :
    Calls Try.prog 45 #[b] w fun e w' => ∃ sv, e = .returned sv ∧ RowG slC 1 36 w' sv vs ∧ (∀ g, g ∈ ownG sv → w.heap.size ≤ g) ∧ Only [] w w' := by
  have HB := hid hb
  obtain ⟨a, c, rfl, _, _, h3⟩ := hb
  cases a with
  | none =>
    obtain rfl : vs = [] := by
      rcases h3 with h | ⟨_, _, h, _⟩
      · exact h
      · cases h
    clear h3 HB hl
    go_enter Try.func45, Try.ntmps45
    go_wp2_with (refine wp_bin_eq (by kernel_rfl) .eql 38 (.tmp 3) (.const (.slice none 0 0)) _ rfl _ _ _ rfl rfl (cloneb_any_g _ _ _ _ _ _) (cloneb_any_t _ _ _) ?_; simp only [Act.put, List.setIfInBounds_toArray, List.set_cons_zero, List.set_cons_succ])
    go_ret
    exact ⟨_, rfl, RowG.nil _, by simp [ownG, Value.ownBlock], Only.refl _ _⟩
  | some a =>
    obtain ⟨sv, w2, hrun, hrow, hown, honly⟩ := append_cloneG slC_ok sl_row w a c vs HB.out hl
    have RUN := hid hrun
    have ROW := hid hrow
    have OW := hid hown
    have ON := hid honly
    clear hrun hrow hown honly h3 hl HB
    go_enter Try.func45, Try.ntmps45
    go_wp2_with (first
      | (refine wp_bin_eq (by kernel_rfl) .eql 38 (.tmp 3) (.const (.slice none 0 0)) _ rfl _ _ _ rfl rfl (cloneb_any_g _ _ _ _ _ _) (cloneb_any_f _ _ _ _) ?_; simp only [Act.put, List.setIfInBounds_toArray, List.set_cons_zero, List.set_cons_succ])
      | (at_builtin; refine wp_append_eq (by kernel_rfl) (.tmp 5) (.tmp 6) _ _ rfl _ _ sv w2 rfl rfl RUN.out ?_; simp only [Act.put, List.setIfInBounds_toArray, List.set_cons_zero, List.set_cons_succ]))
    go_ret
    exact ⟨_, rfl, ROW.out, OW.out, ON.out⟩
end Go.Proofs.Ytfmfknjjhemnoaa

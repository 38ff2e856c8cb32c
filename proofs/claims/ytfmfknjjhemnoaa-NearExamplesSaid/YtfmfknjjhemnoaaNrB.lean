/- The kit's CopyInts of long slices, CopyBlocks. -/
import Derived.Test.YtfmfknjjhemnoaaNrL
import Derived.Test.YtfmfknjjhemnoaaMcV
namespace Go.Proofs.Ytfmfknjjhemnoaa
open Go.RowKit
set_option linter.unusedVariables false
set_option linter.unusedSimpArgs false

theorem run_append_intsW (w : World) (ty : TypeId) (sv : Value) (l : List Int) (hr : RowI w sv l) (ad : Addr) (c : Nat) (cs : List Int)
    (hcs : ∀ j v, (cs.map (Value.int .i64))[j]? = some v → w.cell? (ad.add j) = some v) (hbig : l.length + cs.length ≤ 17592186043904) :
    ∃ sv' w', (Builtin.append_ #[36, 36] ty #[sv, .slice (some ad) cs.length c]).run Try.prog w = .ok sv' w' ∧ RowI w' sv' (l ++ cs) ∧ Only (ownI sv) w w' ∧ (∀ g, g ∈ ownI sv' → g ∈ ownI sv ∨ w.heap.size ≤ g) := by
  obtain ⟨i0, hi0, hz0, hs0, hb0⟩ := info_parts info_int
  have one : ∀ u, u ∈ cs.map (Value.int .i64) → u.oneCell' = true := fun u hu => by obtain ⟨x, _, rfl⟩ := List.mem_map.1 hu; rfl
  obtain ⟨v', w', h1, h2, h3, _, h5⟩ := run_append_own_at (P := Try.prog) (w := w) 0 36 ty 3 i0 (.int .i64 0) 1 8 und_ints hi0 hz0 hs0 hb0 rfl (by omega) sv l.length (l.map (.int .i64)) hr ad cs.length c (cs.map (.int .i64)) (by simp) hcs one (by unfold maxLen; omega) (by omega) (Nat.zero_le _)
  refine ⟨v', w', h1, by unfold RowI; rw [List.length_append, List.map_append]; exact h2, grown_onlyI h3, fun g hg => ?_⟩
  unfold ownI at hg ⊢
  rcases h5 with e | e
  · rw [e] at hg; exact .inl hg
  · rw [e] at hg
    simp at hg
    exact .inr (by omega)
theorem append_copyW (w : World) (b : Value) (vs : List Int) (hb : HoldsI .i64 w b vs) (hl : vs.length ≤ 17592186043904) :
    ∃ sv w', (Builtin.append_ #[36, 36] 36 #[.slice none 0 0, b]).run Try.prog w = .ok sv w' ∧ RowI w' sv vs ∧ Only [] w w' ∧ ∀ g, g ∈ ownI sv → w.heap.size ≤ g := by
  obtain ⟨a, d, rfl, _, _, HA⟩ := hb
  by_cases h0 : vs = []
  · subst h0
    exact ⟨_, w, append_nothingI w a d, RowI.nil w, Only.refl _ _, by simp [ownI, Value.ownBlock]⟩
  · obtain ⟨b, o, rfl, hc⟩ : ∃ b o, a = some ⟨b, o, none⟩ ∧ ∀ (j : Nat) (x : Int), vs[j]? = some x → w.cell? ⟨b, o + j, none⟩ = some (.int .i64 x) := by
      rcases HA with h | h
      · exact absurd h h0
      · exact h
    obtain ⟨sv, w', h1, h2, h3, h4⟩ := run_append_intsW w 36 _ [] (RowI.nil w) ⟨b, o, none⟩ d vs (fun j v hj => by
      rw [List.getElem?_map] at hj
      obtain ⟨x, hx, rfl⟩ := Option.map_eq_some_iff.1 hj
      rw [addI]
      exact hc j x hx) (by simpa using hl)
    exact ⟨sv, w', h1, by simpa using h2, h3.mono (fun _ _ h => by simp [ownI, Value.ownBlock] at h), fun g hg => (h4 g hg).elim (fun h => by simp [ownI, Value.ownBlock] at h) id⟩
/-- A copy: new memory. -/
theorem copyintsW_any (b : Value) (vs : List Int) (w : World) (hb : HoldsI .i64 w b vs) (hl : vs.length ≤ 17592186043904) :
    Calls Try.prog 34 #[b] w fun e w' => ∃ sv, e = .returned sv ∧ RowI w' sv vs ∧ (∀ g, g ∈ ownI sv → w.heap.size ≤ g) ∧ Only [] w w' := by
  obtain ⟨sv, w2, hrun, hrow, honly, hown⟩ := append_copyW w b vs hb hl
  have RUN := hid hrun
  have ROW := hid hrow
  have ON := hid honly
  have OW := hid hown
  clear hrun hrow honly hown hb hl
  go_enter Try.func34, Try.ntmps34
  go_wp2_with (at_builtin; refine wp_append_eq (by kernel_rfl) (.const (.slice none 0 0)) (.tmp 3) _ _ rfl (.slice none 0 0) _ sv w2 rfl rfl RUN.out ?_; simp only [Act.put, List.setIfInBounds_toArray, List.set_cons_zero, List.set_cons_succ])
  go_ret
  exact ⟨_, rfl, ROW.out, OW.out, ON.out⟩
/-- A slice of slices, all of them new since w0. -/
def OwnB (w0 w : World) (sv : Value) (bs : List (List Int)) : Prop := ∃ vs : List SlV, ColG slC 1 36 w0 w sv vs ∧ vs.length = bs.length ∧ ∀ (j : Nat) (v : SlV) (x : List Int), vs[j]? = some v → bs[j]? = some x → RowI w v.sl x ∧ ∀ g, g ∈ ownI v.sl → w0.heap.size ≤ g ∧ g ∉ ownG sv
theorem OwnB.holds {w0 w : World} {sv : Value} {bs : List (List Int)} (h : OwnB w0 w sv bs) : HoldsB w sv bs := by
  obtain ⟨vs, h1, h2, h3⟩ := h
  exact ⟨vs, h1.row.holds slC_ok, h2, fun j v x hv hx => (h3 j v x hv hx).1.holds⟩
theorem OwnB.only {w0 w : World} {sv : Value} {bs : List (List Int)} (h : OwnB w0 w sv bs) : Only [] w0 w := by
  obtain ⟨vs, h1, _⟩ := h
  exact h1.only
theorem OwnB.step {w0 w w' : World} {sv : Value} {bs : List (List Int)} (h : OwnB w0 w sv bs) (o : Only [] w w') : OwnB w0 w' sv bs := by
  obtain ⟨vs, h1, h2, h3⟩ := h
  exact ⟨vs, h1.step o, h2, fun j v x hv hx => ⟨(h3 j v x hv hx).1.only0 o, (h3 j v x hv hx).2⟩⟩
theorem OwnB.base {u w0 w : World} {sv : Value} {bs : List (List Int)} (h : OwnB w0 w sv bs) (o : Only [] u w0) : OwnB u w sv bs := by
  obtain ⟨vs, h1, h2, h3⟩ := h
  exact ⟨vs, ⟨h1.row, fun g hg => Nat.le_trans o.size (h1.new g hg), o.trans h1.only⟩, h2, fun j v x hv hx => ⟨(h3 j v x hv hx).1, fun g hg => ⟨Nat.le_trans o.size ((h3 j v x hv hx).2 g hg).1, ((h3 j v x hv hx).2 g hg).2⟩⟩⟩
theorem ownB_none (w : World) : OwnB w w (.slice none 0 0) [] := ⟨[], ColG.nil w, rfl, fun j v x hv => by simp at hv⟩
theorem sl_row : RowType Try.prog 38 36 (.slice none 0 0) 1 24 := ⟨by kernel_rfl, by kernel_rfl, rfl, by omega⟩
set_option maxHeartbeats 2000000 in
theorem copyblks_any (b : Value) (bs : List (List Int)) (w : World) (hb : HoldsB w b bs) (hl : bs.length ≤ 100000) (hi : ∀ l, l ∈ bs → l.length ≤ 17592186043904) :
    Calls Try.prog 35 #[b] w fun e w' => ∃ sv, e = .returned sv ∧ OwnB w w' sv bs := by
  obtain ⟨us, hu, hul, hh⟩ := hb
  have HU := hid hu
  have HH := hid hh
  have UL := hid hul
  have HI := hid hi
  obtain ⟨ba, bc, rfl, _⟩ := id hu
  obtain ⟨n, hn⟩ : ∃ n, n = us.length := ⟨_, rfl⟩
  have HN := hid hn
  rw [← hn] at HU ⊢
  have nb : (n : Int) ≤ 100000 := by omega
  clear hu hh hul hi hl hn
  go_enter Try.func35, Try.ntmps35
  go_wp2_with fail
  go_loopg [3, 4] n (fun g s t wr => ∃ i : Nat, i + g = n ∧ t = .int .i64 i ∧ OwnB w wr s (bs.take i))
  case atStart => exact ⟨0, by omega, rfl, by simpa using ownB_none w⟩
  case round =>
    obtain ⟨i, hi, rfl, hX⟩ := hrel
    have X := hid hX
    clear hX
    obtain ⟨s, hs⟩ : ∃ s, s = u3 := ⟨_, rfl⟩
    rw [← hs] at X ⊢
    clear hs
    have i0 : (0 : Int) ≤ (i : Int) := by omega
    by_cases hg : gk = 0
    · have i1 : ¬ (i : Int) < (n : Int) := by omega
      have XF := hid (show OwnB w wr s bs from by have := X.out; rw [List.take_of_length_le (by have := HN.out; have := UL.out; omega)] at this; exact this)
      clear hi hg
      go_wp2_with fail
      go_ret
      exact ⟨_, rfl, XF.out⟩
    · obtain ⟨gg, rfl⟩ : ∃ gg, gk = gg + 1 := ⟨gk - 1, by omega⟩
      have IN := hid (show i + 1 + gg = n by omega)
      have i1 : (i : Int) < (n : Int) := by omega
      obtain ⟨u, hu⟩ : ∃ u, us[i]? = some u := ⟨_, List.getElem?_eq_getElem (by have := HN.out; omega)⟩
      obtain ⟨x, hx⟩ : ∃ x, bs[i]? = some x := ⟨_, List.getElem?_eq_getElem (by have := HN.out; have := UL.out; omega)⟩
      obtain ⟨b, o, rfl, hc⟩ := HU.out.at hu
      have cu := X.out.only.cell (hc 0 u.sl rfl) (by simp)
      rw [Nat.mul_one, Nat.add_zero] at cu
      have CP := hid (copyintsW_any u.sl x wr ((HH.out i u x hu hx).only0 X.out.only) (HI.out x (List.mem_of_getElem? hx)))
      have BX := hid hx
      clear hi hg hu hc hx
      go_wp2_with fail
      refine CP.out.mono ?_
      rintro e w3 ⟨ns, rfl, row, nw, o3⟩
      obtain ⟨na, nc, rfl⟩ := row.form
      obtain ⟨vs, h1, h2, h3⟩ := X.out
      have v1 : vs.length + 1 ≤ 1000000 := by rw [h2, List.length_take]; have := IN.out; omega
      obtain ⟨sv2, w2, hrun, hcol⟩ := (ColS.start (h1.step o3)).app1 slC_ok sl_row ((na, x.length, nc) : SlV) v1
      have RUN := hid hrun
      have c2 := ColS.back (h1.step o3) hcol
      have NX := hid (show OwnB w w2 sv2 (bs.take (i + 1)) from by
        obtain ⟨hbl, hbx⟩ := List.getElem?_eq_some_iff.1 BX.out
        refine ⟨vs ++ [(na, x.length, nc)], c2, by rw [List.length_append, h2, List.length_take, List.length_take]; simp; omega, fun j v y hv hy => ?_⟩
        rw [List.take_succ_eq_append_getElem hbl, hbx] at hy
        have far : ∀ g, g ∈ ownG sv2 → g ∈ ownG s ∨ w3.heap.size ≤ g := hcol.new
        by_cases hj : j < vs.length
        · rw [List.getElem?_append_left hj] at hv
          rw [List.getElem?_append_left (by rw [← h2]; exact hj)] at hy
          obtain ⟨r1, r2⟩ := h3 j v y hv hy
          have r3 := r1.only0 o3
          refine ⟨r3.only hcol.only (fun g hg => (r2 g hg).2), fun g hg => ⟨(r2 g hg).1, fun h => ?_⟩⟩
          rcases far g h with h | h
          · exact (r2 g hg).2 h
          · have := r3.lt g hg; omega
        · have hj2 : j = vs.length := by
            have := (List.getElem?_eq_some_iff.1 hv).1
            simp at this
            omega
          subst hj2
          rw [List.getElem?_append_right (Nat.le_refl _), Nat.sub_self] at hv
          rw [List.getElem?_append_right (by rw [← h2]; omega), ← h2, Nat.sub_self] at hy
          simp only [List.getElem?_cons_zero, Option.some.injEq] at hv hy
          subst hv hy
          have ns : ∀ g, g ∈ ownI (SlV.sl (na, x.length, nc)) → g ∉ ownG s := fun g hg hs => by
            have := nw g hg
            have := h1.row.lt g hs
            omega
          refine ⟨row.only hcol.only ns, fun g hg => ⟨Nat.le_trans h1.only.size (nw g hg), fun h => ?_⟩⟩
          rcases far g h with h | h
          · exact ns g hg h
          · have := row.lt g hg; omega)
      clear hrun hcol h1 h2 h3 c2 row nw o3 v1 X CP
      go_wp2_with (at_builtin; refine wp_append_eq (by kernel_rfl) (.tmp 11) (.tmp 17) _ _ rfl _ _ sv2 w2 rfl rfl RUN.out ?_; simp only [Act.put, List.setIfInBounds_toArray, List.set_cons_zero, List.set_cons_succ])
      go_roundg gg
      case measure => omega
      case rel => exact ⟨i + 1, IN.out, by go_num, NX.out⟩
end Go.Proofs.Ytfmfknjjhemnoaa

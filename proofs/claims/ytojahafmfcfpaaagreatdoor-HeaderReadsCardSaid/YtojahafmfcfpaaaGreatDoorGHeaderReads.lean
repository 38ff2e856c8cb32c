/- HeaderReads: for any string, unit and parameter sets. -/
import Derived.Test.YtojahafmfcfpaaaGreatDoorHlH
import Derived.Test.YtojahafmfcfpaaaGreatDoorMg21
import Derived.ShutString
namespace Go.Proofs.YtojahafmfcfpaaaGreatDoor
open Go.RowKit Go.ChangeShapes Go.WideShapes Go.ChangeAt Go.Deep
open Go.ChangeMaps (open_string shut_string)
set_option linter.unusedVariables false
set_option linter.unusedSimpArgs false
set_option maxRecDepth 100000

theorem open_intH {H : Type} {enc : TypeId × Value → H} {w : World} {v : Value} {d : DataW H} {p : List MemPlace} (h : DataW.Trod enc Tryz.prog w 0 (fun _ => true) true 3 v d p) (base : Nat) (k : Value.okWide Tryz.prog w .any base 3 v) :
    ∃ n : Int, v = .int .i64 n ∧ -9223372036854775808 ≤ n ∧ n ≤ 9223372036854775807 := by
  obtain ⟨x, rfl⟩ := okWide_int und_int' k
  obtain ⟨fuel, hf⟩ := h
  simp only [Value.cells] at hf
  obtain ⟨x2, q2, _, b2⟩ := DataW.trod_int und_int' hf
  simp only [List.cons.injEq, and_true] at q2
  cases q2
  obtain ⟨a, b⟩ := bounds_i64 b2
  exact ⟨x, rfl, a, b⟩
theorem open_u8H {H : Type} {enc : TypeId × Value → H} {w : World} {v : Value} {d : DataW H} {p : List MemPlace} (h : DataW.Trod enc Tryz.prog w 0 (fun _ => true) true 5 v d p) (base : Nat) (k : Value.okWide Tryz.prog w .any base 5 v) :
    ∃ n : Int, v = .int .u8 n ∧ 0 ≤ n := by
  obtain ⟨x, rfl⟩ := okWide_int und_u8' k
  obtain ⟨fuel, hf⟩ := h
  simp only [Value.cells] at hf
  obtain ⟨x2, q2, _, b2⟩ := DataW.trod_int und_u8' hf
  simp only [List.cons.injEq, and_true] at q2
  cases q2
  exact ⟨x, rfl, (bounds_u8 b2).1⟩
theorem und_ppss : Tryz.prog.underlying 48 = some (.slice 27) := by kernel_rfl
theorem open_ppss {H : Type} {enc : TypeId × Value → H} {w : World} {base : Nat} {v : Value} {d : DataW H} {p : List MemPlace} (k : Value.okWide Tryz.prog w .any base 48 v) (h : DataW.Trod enc Tryz.prog w 0 (fun _ => true) true 48 v d p) :
    ∃ l : List PV, HoldsG pCl 10 w v l := by
  obtain ⟨a, len, cap, rfl⟩ := okWide_slice und_ppss k
  obtain ⟨fuel, hf⟩ := h
  rcases open_slice und_ppss hf with ⟨hcs, _⟩ | ⟨a', l', c', m, n, D, Pl, hcs, _, hl, hm, hmm, _, hall⟩
  · simp [Value.cells] at hcs
    obtain ⟨rfl, rfl, rfl⟩ := hcs
    exact ⟨[], ⟨none, 0, rfl, by simp, by unfold maxLen; omega, .inl rfl⟩⟩
  · simp [Value.cells] at hcs
    obtain ⟨rfl, rfl, rfl⟩ := hcs
    obtain ⟨b, o, spot⟩ := a'
    by_cases h0 : len = 0
    · subst h0
      exact ⟨[], ⟨_, cap, rfl, hl, hm, .inl rfl⟩⟩
    have each : ∀ i : Nat, ∃ t : PV, i < len → (∀ k v, (pL t)[k]? = some v → w.cell? ((⟨b, o, spot⟩ : Addr).add (i * 10 + k)) = some v) := by
      intro i
      by_cases hil : i < len
      · obtain ⟨cells, hc, hread⟩ := hall i (by rw [hmm]; split <;> omega)
        obtain ⟨_, hlen, hat⟩ := World.cells?_some hc
        rw [cells_ppsA] at hlen hat
        obtain ⟨t, ht⟩ := trod_ppsA hread
        refine ⟨t, fun _ => fun k v hk => ?_⟩
        have hk' : k < 10 := (List.getElem?_eq_some_iff.1 hk).1
        have := hat k hk'
        rw [add_add] at this
        rw [this, ht]
        exact hk
      · exact ⟨p0, fun h => absurd h hil⟩
    obtain ⟨f, hf⟩ := Classical.axiomOfChoice each
    obtain rfl : spot = none := by
      have := (hf 0 (by omega)) 0 _ rfl
      simpa [Addr.add] using World.cell?_spot this
    have add : ∀ k : Nat, (⟨b, o, none⟩ : Addr).add k = ⟨b, o + k, none⟩ := fun k => by cases k <;> simp [Addr.add]
    refine ⟨(List.range len).map f, ⟨_, cap, by simp, by simpa using hl, hm, .inr ⟨b, o, rfl, fun j x hj k v hk => ?_⟩⟩⟩
    rw [List.getElem?_map] at hj
    obtain ⟨i, h1, rfl⟩ := Option.map_eq_some_iff.1 hj
    obtain ⟨h2, h3⟩ := List.getElem?_eq_some_iff.1 h1
    simp at h2 h3
    subst h3
    have := (hf j h2) k v hk
    rw [add, ← Nat.add_assoc] at this
    exact this
theorem und_spss : Tryz.prog.underlying 49 = some (.slice 29) := by kernel_rfl
theorem open_spss {H : Type} {enc : TypeId × Value → H} {w : World} {base : Nat} {v : Value} {d : DataW H} {p : List MemPlace} (k : Value.okWide Tryz.prog w .any base 49 v) (h : DataW.Trod enc Tryz.prog w 0 (fun _ => true) true 49 v d p) :
    ∃ l : List SV, HoldsG sCl 9 w v l := by
  obtain ⟨a, len, cap, rfl⟩ := okWide_slice und_spss k
  obtain ⟨fuel, hf⟩ := h
  rcases open_slice und_spss hf with ⟨hcs, _⟩ | ⟨a', l', c', m, n, D, Pl, hcs, _, hl, hm, hmm, _, hall⟩
  · simp [Value.cells] at hcs
    obtain ⟨rfl, rfl, rfl⟩ := hcs
    exact ⟨[], ⟨none, 0, rfl, by simp, by unfold maxLen; omega, .inl rfl⟩⟩
  · simp [Value.cells] at hcs
    obtain ⟨rfl, rfl, rfl⟩ := hcs
    obtain ⟨b, o, spot⟩ := a'
    by_cases h0 : len = 0
    · subst h0
      exact ⟨[], ⟨_, cap, rfl, hl, hm, .inl rfl⟩⟩
    have each : ∀ i : Nat, ∃ t : SV, i < len → (∀ k v, (sL t)[k]? = some v → w.cell? ((⟨b, o, spot⟩ : Addr).add (i * 9 + k)) = some v) := by
      intro i
      by_cases hil : i < len
      · obtain ⟨cells, hc, hread⟩ := hall i (by rw [hmm]; split <;> omega)
        obtain ⟨_, hlen, hat⟩ := World.cells?_some hc
        rw [cells_spsA] at hlen hat
        obtain ⟨t, ht⟩ := trod_spsA hread
        refine ⟨t, fun _ => fun k v hk => ?_⟩
        have hk' : k < 9 := (List.getElem?_eq_some_iff.1 hk).1
        have := hat k hk'
        rw [add_add] at this
        rw [this, ht]
        exact hk
      · exact ⟨s0, fun h => absurd h hil⟩
    obtain ⟨f, hf⟩ := Classical.axiomOfChoice each
    obtain rfl : spot = none := by
      have := (hf 0 (by omega)) 0 _ rfl
      simpa [Addr.add] using World.cell?_spot this
    have add : ∀ k : Nat, (⟨b, o, none⟩ : Addr).add k = ⟨b, o + k, none⟩ := fun k => by cases k <;> simp [Addr.add]
    refine ⟨(List.range len).map f, ⟨_, cap, by simp, by simpa using hl, hm, .inr ⟨b, o, rfl, fun j x hj k v hk => ?_⟩⟩⟩
    rw [List.getElem?_map] at hj
    obtain ⟨i, h1, rfl⟩ := Option.map_eq_some_iff.1 hj
    obtain ⟨h2, h3⟩ := List.getElem?_eq_some_iff.1 h1
    simp at h2 h3
    subst h3
    have := (hf j h2) k v hk
    rw [add, ← Nat.add_assoc] at this
    exact this
set_option maxRecDepth 100000 in
theorem headerReads_core {H : Type} {enc : TypeId × Value → H} (W : World) (base : Nat) (hV : Vars W)
    (v0 : Value) (d0 : DataW H) (p0 : List MemPlace) (k0 : Value.okWide Tryz.prog W .any base 9 v0) (h0 : DataW.Trod enc Tryz.prog W 0 (fun _ => true) true 9 v0 d0 p0)
    (v1 : Value) (d1 : DataW H) (p1 : List MemPlace) (k1 : Value.okWide Tryz.prog W .any base 3 v1) (h1 : DataW.Trod enc Tryz.prog W 0 (fun _ => true) true 3 v1 d1 p1)
    (v2 : Value) (d2 : DataW H) (p2 : List MemPlace) (k2 : Value.okWide Tryz.prog W .any base 5 v2) (h2 : DataW.Trod enc Tryz.prog W 0 (fun _ => true) true 5 v2 d2 p2)
    (v3 : Value) (d3 : DataW H) (p3 : List MemPlace) (k3 : Value.okWide Tryz.prog W .any base 4 v3) (h3 : DataW.Trod enc Tryz.prog W 0 (fun _ => true) true 4 v3 d3 p3)
    (v4 : Value) (d4 : DataW H) (p4 : List MemPlace) (k4 : Value.okWide Tryz.prog W .any base 48 v4) (h4 : DataW.Trod enc Tryz.prog W 0 (fun _ => true) true 48 v4 d4 p4)
    (v5 : Value) (d5 : DataW H) (p5 : List MemPlace) (k5 : Value.okWide Tryz.prog W .any base 49 v5) (h5 : DataW.Trod enc Tryz.prog W 0 (fun _ => true) true 49 v5 d5 p5) :
    Calls Tryz.prog 4 #[v0, v1, v2, v3, v4, v5] W fun e w' => e = .returned (.bool true) ∧ Below W.heap.size W w' := by
  obtain ⟨s, rfl, rfl, rfl, w0⟩ := open_string Tryz.underlying9 k0 h0
  obtain ⟨n, rfl, n0, n1⟩ := open_intH h1 base k1
  obtain ⟨r, rfl, r0⟩ := open_u8H h2 base k2
  obtain ⟨b, rfl, rfl, rfl⟩ := open_bool Tryz.underlying4 k3 h3
  obtain ⟨pl, hp⟩ := open_ppss k4 h4
  obtain ⟨ql, hq⟩ := open_spss k5 h5
  exact (hreads_any s n r b _ _ pl ql W hV w0 n0 n1 r0 hp hq).mono fun e w' ⟨he, ho⟩ => ⟨he, ho.below (Nat.le_refl _) (by simp)⟩
end Go.Proofs.YtojahafmfcfpaaaGreatDoor

/- An argument that is a slice of commands: what is known of its cells. -/
import Derived.Test.YtojahafmfcfpaaaGreatDoorMg20
import Derived.OpenShut
import Derived.ProofKit
import Derived.Deep.Slices
import Derived.Deep.Fields
import Derived.ChangeSame
namespace Go.Proofs.YtojahafmfcfpaaaGreatDoor
open Go.RowKit Go.ChangeShapes Go.WideShapes Go.ChangeAt Go.Deep
set_option linter.unusedVariables false

/-- The cells of a slice of structs whose fields are one cell each, field by field. -/
theorem slice_cells {H : Type} {enc : TypeId × Value → H} {P : Program} {w : World} {base : Nat} {spare : Nat → Bool} {held : Bool} {t e : TypeId} {fs : Array Field} {fuel : Nat} {cs : List Value} {x : DataW H × List MemPlace}
    (ht : P.underlying t = some (.slice e)) (he : P.underlying e = some (.struct fs)) (hone : oneCellFields P fs = true) (hC : P.cellsOf e = fs.size) (h : DataW.trod enc P w base spare held fuel t cs = some x) :
    cs = [.slice none 0 0] ∨ ∃ a len cap, cs = [.slice (some a) len cap] ∧ len ≤ cap ∧ cap ≤ maxLen ∧
      ∀ i, i < len → ∃ n, ∀ (j : Nat) (f : Field), fs[j]? = some f → ∃ v y, w.cell? (a.add (i * fs.size + j)) = some v ∧ DataW.trod enc P w base spare held n f.type [v] = some y := by
  rcases open_slice ht h with ⟨rfl, _⟩ | ⟨a, len, cap, m, n, D, Pl, rfl, _, hl, hm, hmm, _, hall⟩
  · exact .inl rfl
  refine .inr ⟨a, len, cap, rfl, hl, hm, fun i hi => ?_⟩
  have him : i < m := by rw [hmm]; split <;> omega
  obtain ⟨cells, hc, hread⟩ := hall i him
  obtain ⟨_, hlen, hat⟩ := World.cells?_some hc
  obtain ⟨xs, k, _, _, _, hxl, hfield⟩ := DataW.trod_struct he hread
  refine ⟨k, fun j f hj => ?_⟩
  have hjs : j < fs.size := (Array.getElem?_eq_some_iff.1 hj).1
  have hjc : j < cells.length := by omega
  have one := hone_of hone j f hj
  have hr := hfield j f hj
  rw [one.1, one.2, List.drop_eq_getElem_cons hjc, List.take_succ_cons, List.take_zero, List.getElem?_eq_getElem (by omega : j < xs.length)] at hr
  refine ⟨cells[j], _, ?_, hr⟩
  have := hat j (by omega)
  rw [add_add, hC] at this
  rw [this, List.getElem?_eq_getElem hjc]

theorem und_int' : Tryz.prog.underlying 3 = some (.int .i64) := by kernel_rfl
theorem und_u8' : Tryz.prog.underlying 5 = some (.int .u8) := by kernel_rfl
theorem mod_fields : ∃ fs, Tryz.prog.underlying 71 = some (.struct fs) ∧ oneCellFields Tryz.prog fs = true ∧ fs.size = 3 ∧ fs.map (·.type) = #[5, 3, 3] :=
  ⟨_, Tryz.underlying71, by kernel_rfl, by kernel_rfl, by kernel_rfl⟩
theorem mod_cells : Tryz.prog.cellsOf 71 = 3 := by kernel_rfl
theorem field_of {fs : Array Field} {ts : Array TypeId} (h : fs.map (·.type) = ts) (j : Nat) (T : TypeId) (hj : ts[j]? = some T) : ∃ f, fs[j]? = some f ∧ f.type = T := by
  rw [← h, Array.getElem?_map] at hj
  obtain ⟨f, h1, h2⟩ := Option.map_eq_some_iff.1 hj
  exact ⟨f, h1, h2⟩

set_option maxRecDepth 100000 in
/-- A slice of commands that came in. -/
theorem open_mods {H : Type} {enc : TypeId × Value → H} {w : World} {base : Nat} {v : Value} {d : DataW H} {p : List MemPlace} (k : Value.okWide Tryz.prog w .any base 22 v) (h : DataW.Trod enc Tryz.prog w 0 (fun _ => true) true 22 v d p) :
    ∃ l, HoldsM w v l ∧ OksM l := by
  obtain ⟨a, len, cap, rfl⟩ := okWide_slice und_mods k
  obtain ⟨fuel, hf⟩ := h
  obtain ⟨fs, und_mod, mod_one, mod_size, mod_types⟩ := mod_fields
  rcases slice_cells und_mods und_mod mod_one (by rw [mod_cells, mod_size]) hf with hcs | ⟨a', l', c', hcs, hl, hm, hi⟩
  · simp [Value.cells] at hcs
    obtain ⟨rfl, rfl, rfl⟩ := hcs
    exact ⟨[], holdsM_none w, fun j x hx => by simp at hx⟩
  · simp [Value.cells] at hcs
    obtain ⟨rfl, rfl, rfl⟩ := hcs
    obtain ⟨b, o, spot⟩ := a'
    by_cases h0 : len = 0
    · subst h0
      exact ⟨[], ⟨_, cap, rfl, hl, hm, .inl rfl⟩, fun j x hx => by simp at hx⟩
    obtain ⟨f0, e0, t0⟩ := field_of mod_types 0 5 rfl
    obtain ⟨f1, e1, t1⟩ := field_of mod_types 1 3 rfl
    obtain ⟨f2, e2, t2⟩ := field_of mod_types 2 3 rfl
    obtain rfl : spot = none := by
      obtain ⟨n, hn⟩ := hi 0 (by omega)
      obtain ⟨v0, y0, c0, r0⟩ := hn 0 f0 e0
      have := World.cell?_spot c0
      simpa [Addr.add] using this
    have add : ∀ k : Nat, (⟨b, o, none⟩ : Addr).add k = ⟨b, o + k, none⟩ := fun k => by cases k <;> simp [Addr.add]
    have each : ∀ i : Nat, ∃ t : Int × Int × Int, i < len → MAt w b (o + i * 3) t ∧ OkM t := by
      intro i
      by_cases hil : i < len
      · obtain ⟨n, hn⟩ := hi i hil
        obtain ⟨v0, y0, c0, r0⟩ := hn 0 f0 e0
        obtain ⟨v1, y1, c1, r1⟩ := hn 1 f1 e1
        obtain ⟨v2, y2, c2, r2⟩ := hn 2 f2 e2
        rw [t0] at r0; rw [t1] at r1; rw [t2] at r2
        rw [mod_size, add] at c0 c1 c2
        obtain ⟨x0, q0, _, b0⟩ := DataW.trod_int und_u8' r0
        obtain ⟨x1, q1, _, b1⟩ := DataW.trod_int und_int' r1
        obtain ⟨x2, q2, _, b2⟩ := DataW.trod_int und_int' r2
        simp only [List.cons.injEq, and_true] at q0 q1 q2
        subst q0 q1 q2
        exact ⟨(x0, x1, x2), fun _ => ⟨⟨c0, c1, c2⟩, bounds_u8 b0, bounds_i64 b1, bounds_i64 b2⟩⟩
      · exact ⟨(0, 0, 0), fun h => absurd h hil⟩
    obtain ⟨f, hf⟩ := Classical.axiomOfChoice each
    refine ⟨(List.range len).map f, ⟨_, cap, by simp, by simpa using hl, hm, .inr ⟨b, o, rfl, fun j x hj => ?_⟩⟩, fun j x hj => ?_⟩
    · rw [List.getElem?_map] at hj
      obtain ⟨i, h1, rfl⟩ := Option.map_eq_some_iff.1 hj
      obtain ⟨h2, h3⟩ := List.getElem?_eq_some_iff.1 h1
      simp at h2 h3
      subst h3
      exact (hf j h2).1
    · rw [List.getElem?_map] at hj
      obtain ⟨i, h1, rfl⟩ := Option.map_eq_some_iff.1 hj
      obtain ⟨h2, h3⟩ := List.getElem?_eq_some_iff.1 h1
      simp at h2 h3
      subst h3
      exact (hf j h2).2
end Go.Proofs.YtojahafmfcfpaaaGreatDoor

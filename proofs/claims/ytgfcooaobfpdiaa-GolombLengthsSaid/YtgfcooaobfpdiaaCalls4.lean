/- An argument that is a slice of calls (structs of four cells): what is known of its cells. -/
import Derived.Test.YtgfcooaobfpdiaaObj
import Derived.Test.YtgfcooaobfpdiaaRows
import Derived.OpenShut
import Derived.ProofKit
import Derived.Deep.Slices
import Derived.Deep.Fields
import Derived.ChangeSame
namespace Go.Proofs.Ytgfcooaobfpdiaa
open Go.RowKit Go.ChangeShapes Go.WideShapes Go.ChangeAt Go.Deep
set_option linter.unusedVariables false

/-- The slice holds len calls; f tells them: What, Most, K, V. -/
def CallAt (w : World) (b o : Nat) (x : Int × Int × Int × Int) : Prop :=
  w.cell? ⟨b, o, none⟩ = some (.int .u8 x.1) ∧ w.cell? ⟨b, o + 1, none⟩ = some (.int .u64 x.2.1) ∧ w.cell? ⟨b, o + 2, none⟩ = some (.int .i64 x.2.2.1) ∧ w.cell? ⟨b, o + 3, none⟩ = some (.int .u64 x.2.2.2)
def CallOk (x : Int × Int × Int × Int) : Prop :=
  (0 ≤ x.1 ∧ x.1 ≤ 255) ∧ (0 ≤ x.2.1 ∧ x.2.1 ≤ 18446744073709551615) ∧ (-9223372036854775808 ≤ x.2.2.1 ∧ x.2.2.1 ≤ 9223372036854775807) ∧ (0 ≤ x.2.2.2 ∧ x.2.2.2 ≤ 18446744073709551615)
def CallsAt (w : World) (a : Option Addr) (len : Nat) (f : Nat → Int × Int × Int × Int) : Prop :=
  len = 0 ∨ ∃ b o, a = some ⟨b, o, none⟩ ∧ ∀ i, i < len → CallAt w b (o + i * 4) (f i) ∧ CallOk (f i)

theorem CallAt.all {w : World} {b o : Nat} {x : Int × Int × Int × Int} (h : CallAt w b o x) :
    w.cell? ⟨b, o, none⟩ = some (.int .u8 x.1) ∧ w.cell? ⟨b, o + 1, none⟩ = some (.int .u64 x.2.1) ∧ w.cell? ⟨b, o + 2, none⟩ = some (.int .i64 x.2.2.1) ∧ w.cell? ⟨b, o + 3, none⟩ = some (.int .u64 x.2.2.2) := h
theorem CallAt.only {w w' : World} {b o : Nat} {x : Int × Int × Int × Int} (h : CallAt w b o x) (k : Only [] w w') : CallAt w' b o x :=
  ⟨k.cell h.1 (by simp), k.cell h.2.1 (by simp), k.cell h.2.2.1 (by simp), k.cell h.2.2.2 (by simp)⟩
theorem CallsAt.only {w w' : World} {a : Option Addr} {len : Nat} {f : Nat → Int × Int × Int × Int} (h : CallsAt w a len f) (k : Only [] w w') : CallsAt w' a len f := by
  rcases h with h | ⟨b, o, rfl, h⟩
  · exact .inl h
  · exact .inr ⟨b, o, rfl, fun i hi => ⟨(h i hi).1.only k, (h i hi).2⟩⟩

/-- The cells of a call, in a later world. -/
theorem CallsAt.at {w w' : World} {b o len : Nat} {f : Nat → Int × Int × Int × Int} (h : CallsAt w (some ⟨b, o, none⟩) len f) (k : Only [] w w') {j : Nat} (hj : j < len) : CallAt w' b (o + j * 4) (f j) := by
  rcases h with h | ⟨b', o', e, h⟩
  · omega
  · obtain ⟨rfl, rfl⟩ : b = b' ∧ o = o' := by injection e with h; injection h with h1 h2 _; exact ⟨h1, h2⟩
    exact (h j hj).1.only k

/-- The cells of a slice of structs whose fields are one cell each, field by field. -/
theorem slice_cells {H : Type} {enc : TypeId × Value → H} {P : Program} {w : World} {base : Nat} {spare : Nat → Bool} {held : Bool} {t e : TypeId} {fs : Array Field} {fuel : Nat} {cs : List Value} {x : DataW H × List MemPlace}
    (ht : P.underlying t = some (.slice e)) (he : P.underlying e = some (.struct fs)) (hone : oneCellFields P fs = true) (hC : P.cellsOf e = fs.size) (h : DataW.trod enc P w base spare held fuel t cs = some x) :
    cs = [.slice none 0 0] ∨ ∃ a len cap, cs = [.slice (some a) len cap] ∧ len ≤ cap ∧ cap ≤ maxLen ∧
      ∀ i, i < len → ∃ n, ∀ (j : Nat) (f : Field), fs[j]? = some f → ∃ v y, w.cell? (a.add (i * fs.size + j)) = some v ∧ DataW.trod enc P w base spare held n f.type [v] = some y := by
  rcases open_slice ht h with ⟨rfl, _⟩ | ⟨a, len, cap, m, n, D, Pl, rfl, _, hl, hm, hmm, _, hall⟩
  · exact .inl rfl
  refine .inr ⟨a, len, cap, rfl, hl, hm, fun i hi => ?_⟩
  have him : i < m := by rw [hmm]; split <;> omega
  obtain ⟨cells, hc, hread⟩ := hall i him
  obtain ⟨_, hlen, hat⟩ := World.cells?_some hc
  obtain ⟨xs, k, _, _, _, hxl, hfield⟩ := DataW.trod_struct he hread
  refine ⟨k, fun j f hj => ?_⟩
  have hjs : j < fs.size := (Array.getElem?_eq_some_iff.1 hj).1
  have hjc : j < cells.length := by omega
  have one := hone_of hone j f hj
  have hr := hfield j f hj
  rw [one.1, one.2, List.drop_eq_getElem_cons hjc, List.take_succ_cons, List.take_zero, List.getElem?_eq_getElem (by omega : j < xs.length)] at hr
  refine ⟨cells[j], _, ?_, hr⟩
  have := hat j (by omega)
  rw [add_add, hC] at this
  rw [this, List.getElem?_eq_getElem hjc]

theorem und_calls : Try.prog.underlying 22 = some (.slice 31) := by kernel_rfl
theorem und_u64 : Try.prog.underlying 28 = some (.int .u64) := by kernel_rfl
theorem und_int' : Try.prog.underlying 3 = some (.int .i64) := by kernel_rfl
theorem und_u8' : Try.prog.underlying 5 = some (.int .u8) := by kernel_rfl
theorem call_fields : ∃ fs, Try.prog.underlying 31 = some (.struct fs) ∧ oneCellFields Try.prog fs = true ∧ fs.size = 4 ∧ fs.map (·.type) = #[5, 28, 3, 28] :=
  ⟨_, Try.underlying31, by kernel_rfl, by kernel_rfl, by kernel_rfl⟩
theorem call_cells : Try.prog.cellsOf 31 = 4 := by kernel_rfl
theorem field_of {fs : Array Field} {ts : Array TypeId} (h : fs.map (·.type) = ts) (j : Nat) (T : TypeId) (hj : ts[j]? = some T) : ∃ f, fs[j]? = some f ∧ f.type = T := by
  rw [← h, Array.getElem?_map] at hj
  obtain ⟨f, h1, h2⟩ := Option.map_eq_some_iff.1 hj
  exact ⟨f, h1, h2⟩

/-- A slice of calls that came in. -/
theorem open_calls {H : Type} {enc : TypeId × Value → H} {w : World} {base : Nat} {v : Value} {d : DataW H} {p : List MemPlace} (k : Value.okWide Try.prog w .any base 22 v) (h : DataW.Trod enc Try.prog w 0 (fun _ => true) true 22 v d p) :
    ∃ a len cap f, v = .slice a len cap ∧ len ≤ cap ∧ cap ≤ maxLen ∧ CallsAt w a len f := by
  obtain ⟨a, len, cap, rfl⟩ := okWide_slice und_calls k
  obtain ⟨fuel, hf⟩ := h
  obtain ⟨fs, und_call, call_one, call_size, call_types⟩ := call_fields
  rcases slice_cells und_calls und_call call_one (by rw [call_cells, call_size]) hf with hcs | ⟨a', l', c', hcs, hl, hm, hi⟩
  · simp [Value.cells] at hcs
    obtain ⟨rfl, rfl, rfl⟩ := hcs
    exact ⟨none, 0, 0, fun _ => (0, 0, 0, 0), rfl, Nat.le_refl _, by unfold maxLen; omega, .inl rfl⟩
  · simp [Value.cells] at hcs
    obtain ⟨rfl, rfl, rfl⟩ := hcs
    obtain ⟨b, o, spot⟩ := a'
    by_cases h0 : len = 0
    · exact ⟨_, len, cap, fun _ => (0, 0, 0, 0), rfl, hl, hm, .inl h0⟩
    obtain ⟨f0, e0, t0⟩ := field_of call_types 0 5 rfl
    obtain ⟨f1, e1, t1⟩ := field_of call_types 1 28 rfl
    obtain ⟨f2, e2, t2⟩ := field_of call_types 2 3 rfl
    obtain ⟨f3, e3, t3⟩ := field_of call_types 3 28 rfl
    obtain rfl : spot = none := by
      obtain ⟨n, hn⟩ := hi 0 (by omega)
      obtain ⟨v0, y0, c0, r0⟩ := hn 0 f0 e0
      have := World.cell?_spot c0
      simpa [Addr.add] using this
    have add : ∀ k : Nat, (⟨b, o, none⟩ : Addr).add k = ⟨b, o + k, none⟩ := fun k => by cases k <;> simp [Addr.add]
    have each : ∀ i : Nat, ∃ t : Int × Int × Int × Int, i < len → CallAt w b (o + i * 4) t ∧ CallOk t := by
      intro i
      by_cases hil : i < len
      · obtain ⟨n, hn⟩ := hi i hil
        obtain ⟨v0, y0, c0, r0⟩ := hn 0 f0 e0
        obtain ⟨v1, y1, c1, r1⟩ := hn 1 f1 e1
        obtain ⟨v2, y2, c2, r2⟩ := hn 2 f2 e2
        obtain ⟨v3, y3, c3, r3⟩ := hn 3 f3 e3
        rw [t0] at r0; rw [t1] at r1; rw [t2] at r2; rw [t3] at r3
        rw [call_size, add] at c0 c1 c2 c3
        obtain ⟨x0, q0, _, b0⟩ := DataW.trod_int und_u8' r0
        obtain ⟨x1, q1, _, b1⟩ := DataW.trod_int und_u64 r1
        obtain ⟨x2, q2, _, b2⟩ := DataW.trod_int und_int' r2
        obtain ⟨x3, q3, _, b3⟩ := DataW.trod_int und_u64 r3
        simp only [List.cons.injEq, and_true] at q0 q1 q2 q3
        subst q0 q1 q2 q3
        exact ⟨(x0, x1, x2, x3), fun _ => ⟨⟨c0, c1, c2, c3⟩, bounds_u8 b0, bounds_u64 b1, bounds_i64 b2, bounds_u64 b3⟩⟩
      · exact ⟨(0, 0, 0, 0), fun h => absurd h hil⟩
    obtain ⟨f, hf⟩ := Classical.axiomOfChoice each
    exact ⟨_, len, cap, f, rfl, hl, hm, .inr ⟨b, o, rfl, fun i hi => hf i hi⟩⟩
end Go.Proofs.Ytgfcooaobfpdiaa

/- An argument that is a slice of calls (structs of 21 cells, two of whose fields are structs). -/
import Derived.Test.YtkcjehajmofhfaaSeH
import Derived.Test.YtkcjehajmofhfaaSeV
namespace Go.Proofs.Ytkcjehajmofhfaa
open Go.RowKit Go.ChangeShapes Go.WideShapes Go.ChangeAt Go.Deep
set_option linter.unusedVariables false

/-- A call of the law. -/
structure AV where
  wh : Int
  s : SV
  p : PV
  id : Int
def aCl (x : AV) : List Value := .int .u8 x.wh :: (sCl x.s ++ (pCl x.p ++ [.int .i64 x.id]))
theorem aCl_ok : CellsN aCl 21 := ⟨fun _ => rfl, fun x u h => by simp [aCl, sCl, pCl] at h; rcases h with h | h | h | h | h | h | h | h | h | h | h | h | h | h | h | h | h | h | h | h | h <;> (subst h; rfl), by omega⟩
section
variable {H : Type} {enc : TypeId × Value → H} {P : Program} {w : World} {base : Nat} {sp : Nat → Bool} {held : Bool} {e : TypeId} {fs : Array Field} {fuel : Nat} {cs : List Value} {x : DataW H × List MemPlace}
theorem each_of (he : P.underlying e = some (.struct fs)) (hone : oneCellFields P fs = true) (hl : cs.length = fs.size) (h : DataW.trod enc P w base sp held fuel e cs = some x) :
    ∃ n, ∀ (j : Nat) (f : Field), fs[j]? = some f → ∃ y, DataW.trod enc P w base sp held n f.type [cs.getD j undef] = some y := by
  obtain ⟨xs, n, _, _, _, hxl, hfield⟩ := DataW.trod_struct he h
  refine ⟨n, fun j f hj => ?_⟩
  have hjs : j < fs.size := (Array.getElem?_eq_some_iff.1 hj).1
  have hjc : j < cs.length := by omega
  have one := hone_of hone j f hj
  have hr := hfield j f hj
  rw [one.1, one.2, List.drop_eq_getElem_cons hjc, List.take_succ_cons, List.take_zero, List.getElem?_eq_getElem (by omega : j < xs.length)] at hr
  exact ⟨_, by rw [List.getD_eq_getElem?_getD, List.getElem?_eq_getElem hjc, Option.getD_some]; exact hr⟩
end
section
variable {H : Type} {enc : TypeId × Value → H} {w : World} {base : Nat} {sp : Nat → Bool} {held : Bool} {fuel : Nat} {cs : List Value} {x : DataW H × List MemPlace}
theorem sps_of (hl : cs.length = 9) (h : DataW.trod enc Try.prog w base sp held fuel 28 cs = some x) : ∃ s : SV, cs = sCl s := by
  obtain ⟨fs, und, one, size, types⟩ := sps_fields
  obtain ⟨n, each⟩ := each_of und one (by omega) h
  obtain ⟨f0, e0, t0⟩ := field_of types 0 5 rfl
  obtain ⟨y0, r0⟩ := each 0 f0 e0
  rw [t0] at r0
  obtain ⟨x0, q0, _⟩ := DataW.trod_int und_u8 r0
  obtain ⟨f1, e1, t1⟩ := field_of types 1 5 rfl
  obtain ⟨y1, r1⟩ := each 1 f1 e1
  rw [t1] at r1
  obtain ⟨x1, q1, _⟩ := DataW.trod_int und_u8 r1
  obtain ⟨f2, e2, t2⟩ := field_of types 2 5 rfl
  obtain ⟨y2, r2⟩ := each 2 f2 e2
  rw [t2] at r2
  obtain ⟨x2, q2, _⟩ := DataW.trod_int und_u8 r2
  obtain ⟨f3, e3, t3⟩ := field_of types 3 3 rfl
  obtain ⟨y3, r3⟩ := each 3 f3 e3
  rw [t3] at r3
  obtain ⟨x3, q3, _⟩ := DataW.trod_int und_int r3
  obtain ⟨f4, e4, t4⟩ := field_of types 4 3 rfl
  obtain ⟨y4, r4⟩ := each 4 f4 e4
  rw [t4] at r4
  obtain ⟨x4, q4, _⟩ := DataW.trod_int und_int r4
  obtain ⟨f5, e5, t5⟩ := field_of types 5 3 rfl
  obtain ⟨y5, r5⟩ := each 5 f5 e5
  rw [t5] at r5
  obtain ⟨x5, q5, _⟩ := DataW.trod_int und_int r5
  obtain ⟨f6, e6, t6⟩ := field_of types 6 3 rfl
  obtain ⟨y6, r6⟩ := each 6 f6 e6
  rw [t6] at r6
  obtain ⟨x6, q6, _⟩ := DataW.trod_int und_int r6
  obtain ⟨f7, e7, t7⟩ := field_of types 7 3 rfl
  obtain ⟨y7, r7⟩ := each 7 f7 e7
  rw [t7] at r7
  obtain ⟨x7, q7, _⟩ := DataW.trod_int und_int r7
  obtain ⟨f8, e8, t8⟩ := field_of types 8 3 rfl
  obtain ⟨y8, r8⟩ := each 8 f8 e8
  rw [t8] at r8
  obtain ⟨x8, q8, _⟩ := DataW.trod_int und_int r8
  simp only [List.cons.injEq, and_true] at q0 q1 q2 q3 q4 q5 q6 q7 q8
  refine ⟨⟨x0, x1, x2, x3, x4, x5, x6, x7, x8⟩, List.ext_getElem?_iff.2 fun i => ?_⟩
  by_cases hi : i < 9
  · have g : cs[i]? = some (cs.getD i undef) := by rw [List.getD_eq_getElem?_getD, List.getElem?_eq_getElem (by omega), Option.getD_some]
    rw [g]
    obtain rfl | rfl | rfl | rfl | rfl | rfl | rfl | rfl | rfl : i = 0 ∨ i = 1 ∨ i = 2 ∨ i = 3 ∨ i = 4 ∨ i = 5 ∨ i = 6 ∨ i = 7 ∨ i = 8 := by omega
    · rw [q0]; rfl
    · rw [q1]; rfl
    · rw [q2]; rfl
    · rw [q3]; rfl
    · rw [q4]; rfl
    · rw [q5]; rfl
    · rw [q6]; rfl
    · rw [q7]; rfl
    · rw [q8]; rfl
  · rw [List.getElem?_eq_none (by omega), List.getElem?_eq_none (by simp [sCl]; omega)]
theorem pps_of (hl : cs.length = 10) (h : DataW.trod enc Try.prog w base sp held fuel 30 cs = some x) : ∃ s : PV, cs = pCl s := by
  obtain ⟨fs, und, one, size, types⟩ := pps_fields
  obtain ⟨n, each⟩ := each_of und one (by omega) h
  obtain ⟨f0, e0, t0⟩ := field_of types 0 3 rfl
  obtain ⟨y0, r0⟩ := each 0 f0 e0
  rw [t0] at r0
  obtain ⟨x0, q0, _⟩ := DataW.trod_int und_int r0
  obtain ⟨f1, e1, t1⟩ := field_of types 1 3 rfl
  obtain ⟨y1, r1⟩ := each 1 f1 e1
  rw [t1] at r1
  obtain ⟨x1, q1, _⟩ := DataW.trod_int und_int r1
  obtain ⟨f2, e2, t2⟩ := field_of types 2 4 rfl
  obtain ⟨y2, r2⟩ := each 2 f2 e2
  rw [t2] at r2
  obtain ⟨x2, q2, _⟩ := DataW.trod_bool und_bool' r2
  obtain ⟨f3, e3, t3⟩ := field_of types 3 3 rfl
  obtain ⟨y3, r3⟩ := each 3 f3 e3
  rw [t3] at r3
  obtain ⟨x3, q3, _⟩ := DataW.trod_int und_int r3
  obtain ⟨f4, e4, t4⟩ := field_of types 4 3 rfl
  obtain ⟨y4, r4⟩ := each 4 f4 e4
  rw [t4] at r4
  obtain ⟨x4, q4, _⟩ := DataW.trod_int und_int r4
  obtain ⟨f5, e5, t5⟩ := field_of types 5 3 rfl
  obtain ⟨y5, r5⟩ := each 5 f5 e5
  rw [t5] at r5
  obtain ⟨x5, q5, _⟩ := DataW.trod_int und_int r5
  obtain ⟨f6, e6, t6⟩ := field_of types 6 3 rfl
  obtain ⟨y6, r6⟩ := each 6 f6 e6
  rw [t6] at r6
  obtain ⟨x6, q6, _⟩ := DataW.trod_int und_int r6
  obtain ⟨f7, e7, t7⟩ := field_of types 7 3 rfl
  obtain ⟨y7, r7⟩ := each 7 f7 e7
  rw [t7] at r7
  obtain ⟨x7, q7, _⟩ := DataW.trod_int und_int r7
  obtain ⟨f8, e8, t8⟩ := field_of types 8 4 rfl
  obtain ⟨y8, r8⟩ := each 8 f8 e8
  rw [t8] at r8
  obtain ⟨x8, q8, _⟩ := DataW.trod_bool und_bool' r8
  obtain ⟨f9, e9, t9⟩ := field_of types 9 4 rfl
  obtain ⟨y9, r9⟩ := each 9 f9 e9
  rw [t9] at r9
  obtain ⟨x9, q9, _⟩ := DataW.trod_bool und_bool' r9
  simp only [List.cons.injEq, and_true] at q0 q1 q2 q3 q4 q5 q6 q7 q8 q9
  refine ⟨⟨x0, x1, x2, x3, x4, x5, x6, x7, x8, x9⟩, List.ext_getElem?_iff.2 fun i => ?_⟩
  by_cases hi : i < 10
  · have g : cs[i]? = some (cs.getD i undef) := by rw [List.getD_eq_getElem?_getD, List.getElem?_eq_getElem (by omega), Option.getD_some]
    rw [g]
    obtain rfl | rfl | rfl | rfl | rfl | rfl | rfl | rfl | rfl | rfl : i = 0 ∨ i = 1 ∨ i = 2 ∨ i = 3 ∨ i = 4 ∨ i = 5 ∨ i = 6 ∨ i = 7 ∨ i = 8 ∨ i = 9 := by omega
    · rw [q0]; rfl
    · rw [q1]; rfl
    · rw [q2]; rfl
    · rw [q3]; rfl
    · rw [q4]; rfl
    · rw [q5]; rfl
    · rw [q6]; rfl
    · rw [q7]; rfl
    · rw [q8]; rfl
    · rw [q9]; rfl
  · rw [List.getElem?_eq_none (by omega), List.getElem?_eq_none (by simp [pCl]; omega)]
theorem act_fields : ∃ fs, Try.prog.underlying 32 = some (.struct fs) ∧ fs.size = 4 ∧ fs.map (fun f => (f.type, f.offset)) = #[(5, 0), (28, 1), (30, 10), (3, 20)] :=
  ⟨_, Try.underlying32, by kernel_rfl, by kernel_rfl⟩
theorem act_cells : Try.prog.cellsOf 32 = 21 := by kernel_rfl
theorem cells_u8 : Try.prog.cellsOf 5 = 1 := by kernel_rfl
theorem cells_int : Try.prog.cellsOf 3 = 1 := by kernel_rfl
theorem fieldA {fs : Array Field} {ts : Array (TypeId × Nat)} (h : fs.map (fun f => (f.type, f.offset)) = ts) (j : Nat) (T : TypeId × Nat) (hj : ts[j]? = some T) : ∃ f, fs[j]? = some f ∧ f.type = T.1 ∧ f.offset = T.2 := by
  rw [← h, Array.getElem?_map] at hj
  obtain ⟨f, h1, h2⟩ := Option.map_eq_some_iff.1 hj
  exact ⟨f, h1, by rw [← h2], by rw [← h2]⟩
theorem act_of (hl : cs.length = 21) (h : DataW.trod enc Try.prog w base sp held fuel 32 cs = some x) : ∃ a : AV, cs = aCl a ∧ 0 ≤ a.wh ∧ a.wh ≤ 255 := by
  obtain ⟨fs, und, size, types⟩ := act_fields
  obtain ⟨xs, n, _, _, _, hxl, hfield⟩ := DataW.trod_struct und h
  obtain ⟨f0, e0, t0, o0⟩ := fieldA types 0 (5, 0) rfl
  obtain ⟨f1, e1, t1, o1⟩ := fieldA types 1 (28, 1) rfl
  obtain ⟨f2, e2, t2, o2⟩ := fieldA types 2 (30, 10) rfl
  obtain ⟨f3, e3, t3, o3⟩ := fieldA types 3 (3, 20) rfl
  have r0 := hfield 0 f0 e0
  have r1 := hfield 1 f1 e1
  have r2 := hfield 2 f2 e2
  have r3 := hfield 3 f3 e3
  simp only [] at t0 t1 t2 t3 o0 o1 o2 o3
  rw [t0, o0, cells_u8, List.getElem?_eq_getElem (by omega : 0 < xs.length)] at r0
  rw [t1, o1, sps_cells, List.getElem?_eq_getElem (by omega : 1 < xs.length)] at r1
  rw [t2, o2, pps_cells, List.getElem?_eq_getElem (by omega : 2 < xs.length)] at r2
  rw [t3, o3, cells_int, List.getElem?_eq_getElem (by omega : 3 < xs.length)] at r3
  obtain ⟨a, q0, _, b0⟩ := DataW.trod_int und_u8 r0
  obtain ⟨s, q1⟩ := sps_of (by rw [List.length_take, List.length_drop]; omega) r1
  obtain ⟨p, q2⟩ := pps_of (by rw [List.length_take, List.length_drop]; omega) r2
  obtain ⟨d, q3, _⟩ := DataW.trod_int und_int r3
  have hb := (bounds_u8 b0)
  refine ⟨⟨a, s, p, d⟩, ?_, hb.1, hb.2⟩
  have e1 : cs = (cs.drop 0).take 1 ++ ((cs.drop 1).take 9 ++ ((cs.drop 10).take 10 ++ (cs.drop 20).take 1)) := by
    have a1 : (cs.drop 20).take 1 = cs.drop 20 := List.take_of_length_le (by rw [List.length_drop]; omega)
    have a2 : cs.drop 10 = (cs.drop 10).take 10 ++ cs.drop 20 := by conv => lhs; rw [← List.take_append_drop 10 (cs.drop 10), List.drop_drop]
    have a3 : cs.drop 1 = (cs.drop 1).take 9 ++ cs.drop 10 := by conv => lhs; rw [← List.take_append_drop 9 (cs.drop 1), List.drop_drop]
    have a4 : cs = cs.take 1 ++ cs.drop 1 := (List.take_append_drop 1 cs).symm
    rw [a1, ← a2, ← a3]
    exact a4
  rw [q0, q1, q2, q3] at e1
  exact e1
end
theorem und_acts : Try.prog.underlying 22 = some (.slice 32) := by kernel_rfl
abbrev HoldsA (w : World) (sv : Value) (l : List AV) : Prop := HoldsG aCl 21 w sv l
def OksA (l : List AV) : Prop := ∀ (j : Nat) x, l[j]? = some x → 0 ≤ x.wh ∧ x.wh ≤ 255
theorem open_acts {H : Type} {enc : TypeId × Value → H} {w : World} {base : Nat} {v : Value} {d : DataW H} {p : List MemPlace} (k : Value.okWide Try.prog w .any base 22 v) (h : DataW.Trod enc Try.prog w 0 (fun _ => true) true 22 v d p) :
    ∃ l, HoldsA w v l ∧ OksA l := by
  obtain ⟨a, len, cap, rfl⟩ := okWide_slice und_acts k
  obtain ⟨fuel, hf⟩ := h
  rcases open_slice und_acts hf with ⟨hcs, _⟩ | ⟨a', l', c', m, n, D, Pl, hcs, _, hl, hm, hmm, _, hall⟩
  · simp [Value.cells] at hcs
    obtain ⟨rfl, rfl, rfl⟩ := hcs
    exact ⟨[], ⟨none, 0, rfl, by simp, by unfold maxLen; omega, .inl rfl⟩, fun j x hx => by simp at hx⟩
  · simp [Value.cells] at hcs
    obtain ⟨rfl, rfl, rfl⟩ := hcs
    obtain ⟨b, o, spot⟩ := a'
    by_cases h0 : len = 0
    · subst h0
      exact ⟨[], ⟨_, cap, rfl, hl, hm, .inl rfl⟩, fun j x hx => by simp at hx⟩
    have each : ∀ i : Nat, ∃ t : AV, i < len → (∀ k v, (aCl t)[k]? = some v → w.cell? ((⟨b, o, spot⟩ : Addr).add (i * 21 + k)) = some v) ∧ 0 ≤ t.wh ∧ t.wh ≤ 255 := by
      intro i
      by_cases hil : i < len
      · obtain ⟨cells, hc, hread⟩ := hall i (by rw [hmm]; split <;> omega)
        obtain ⟨_, hlen, hat⟩ := World.cells?_some hc
        rw [act_cells] at hlen hat
        obtain ⟨t, ht, b1, b2⟩ := act_of hlen hread
        refine ⟨t, fun _ => ⟨fun k v hk => ?_, b1, b2⟩⟩
        have hk' : k < 21 := by have := (List.getElem?_eq_some_iff.1 hk).1; rwa [aCl_ok.len] at this
        have := hat k hk'
        rw [add_add] at this
        rw [this, ht]
        exact hk
      · exact ⟨⟨0, s0, p0, 0⟩, fun h => absurd h hil⟩
    obtain ⟨f, hf⟩ := Classical.axiomOfChoice each
    obtain rfl : spot = none := by
      have := (hf 0 (by omega)).1 0 _ rfl
      simpa [Addr.add] using World.cell?_spot this
    have add : ∀ k : Nat, (⟨b, o, none⟩ : Addr).add k = ⟨b, o + k, none⟩ := fun k => by cases k <;> simp [Addr.add]
    refine ⟨(List.range len).map f, ⟨_, cap, by simp, by simpa using hl, hm, .inr ⟨b, o, rfl, fun j x hj k v hk => ?_⟩⟩, fun j x hj => ?_⟩
    · rw [List.getElem?_map] at hj
      obtain ⟨i, h1, rfl⟩ := Option.map_eq_some_iff.1 hj
      obtain ⟨h2, h3⟩ := List.getElem?_eq_some_iff.1 h1
      simp at h2 h3
      subst h3
      have := (hf j h2).1 k v hk
      rw [add, ← Nat.add_assoc] at this
      exact this
    · rw [List.getElem?_map] at hj
      obtain ⟨i, h1, rfl⟩ := Option.map_eq_some_iff.1 hj
      obtain ⟨h2, h3⟩ := List.getElem?_eq_some_iff.1 h1
      simp at h2 h3
      subst h3
      exact (hf j h2).2
end Go.Proofs.Ytkcjehajmofhfaa

/- A macroblock that comes in as an argument. -/
import Derived.Test.YtfmfknjjhemnoaaMbH
import Derived.Test.YtfmfknjjhemnoaaArgI
import Derived.Deep.Slices
import Derived.Deep.Fields
namespace Go.Proofs.Ytfmfknjjhemnoaa
open Go.RowKit Go.ChangeShapes Go.WideShapes Go.ChangeAt Go.Deep
set_option linter.unusedVariables false
set_option linter.unusedSimpArgs false

/-- The cells of a slice of structs whose fields are one cell each, field by field. -/
theorem slice_cellsM {H : Type} {enc : TypeId × Value → H} {P : Program} {w : World} {base : Nat} {spare : Nat → Bool} {held : Bool} {t e : TypeId} {fs : Array Field} {fuel : Nat} {cs : List Value} {x : DataW H × List MemPlace}
    (ht : P.underlying t = some (.slice e)) (he : P.underlying e = some (.struct fs)) (hone : oneCellFields P fs = true) (hC : P.cellsOf e = fs.size) (h : DataW.trod enc P w base spare held fuel t cs = some x) :
    cs = [.slice none 0 0] ∨ ∃ a len cap, cs = [.slice (some a) len cap] ∧ len ≤ cap ∧ cap ≤ maxLen ∧
      ∀ i, i < len → ∃ n, ∀ (j : Nat) (f : Field), fs[j]? = some f → ∃ v y, w.cell? (a.add (i * fs.size + j)) = some v ∧ DataW.trod enc P w base spare held n f.type [v] = some y := by
  rcases open_slice ht h with ⟨rfl, _⟩ | ⟨a, len, cap, m, n, D, Pl, rfl, _, hl, hm, hmm, _, hall⟩
  · exact .inl rfl
  refine .inr ⟨a, len, cap, rfl, hl, hm, fun i hi => ?_⟩
  have him : i < m := by rw [hmm]; split <;> omega
  obtain ⟨cells, hc, hread⟩ := hall i him
  obtain ⟨_, hlen, hat⟩ := World.cells?_some hc
  obtain ⟨xs, k, _, _, _, hxl, hfield⟩ := DataW.trod_struct he hread
  refine ⟨k, fun j f hj => ?_⟩
  have hjs : j < fs.size := (Array.getElem?_eq_some_iff.1 hj).1
  have hjc : j < cells.length := by omega
  have one := hone_of hone j f hj
  have hr := hfield j f hj
  rw [one.1, one.2, List.drop_eq_getElem_cons hjc, List.take_succ_cons, List.take_zero, List.getElem?_eq_getElem (by omega : j < xs.length)] at hr
  refine ⟨cells[j], _, ?_, hr⟩
  have := hat j (by omega)
  rw [add_add, hC] at this
  rw [this, List.getElem?_eq_getElem hjc]
theorem und_u8v : Try.prog.underlying 5 = some (.int .u8) := by kernel_rfl
theorem und_intv : Try.prog.underlying 3 = some (.int .i64) := by kernel_rfl
theorem und_strv : Try.prog.underlying 9 = some .string := by kernel_rfl
theorem und_vecs : Try.prog.underlying 37 = some (.slice 71) := by kernel_rfl
theorem und_blks : Try.prog.underlying 38 = some (.slice 36) := by kernel_rfl
theorem cells_intv : Try.prog.cellsOf 3 = 1 := by kernel_rfl
theorem cells_intsv : Try.prog.cellsOf 36 = 1 := by kernel_rfl
theorem vec_fields : ∃ fs, Try.prog.underlying 71 = some (.struct fs) ∧ oneCellFields Try.prog fs = true ∧ fs.size = 2 ∧ fs.map (·.type) = #[3, 3] :=
  ⟨_, Try.underlying71, by kernel_rfl, by kernel_rfl, by kernel_rfl⟩
theorem vec_cells : Try.prog.cellsOf 71 = 2 := by kernel_rfl
theorem field_ofM {fs : Array Field} {ts : Array TypeId} (h : fs.map (·.type) = ts) (j : Nat) (T : TypeId) (hj : ts[j]? = some T) : ∃ f, fs[j]? = some f ∧ f.type = T := by
  rw [← h, Array.getElem?_map] at hj
  obtain ⟨f, h1, h2⟩ := Option.map_eq_some_iff.1 hj
  exact ⟨f, h1, h2⟩
theorem trod_vecs {H : Type} {enc : TypeId × Value → H} {w : World} {fuel : Nat} {v : Value} {x : DataW H × List MemPlace} (hf : DataW.trod enc Try.prog w 0 (fun _ => true) true fuel 37 [v] = some x) : ∃ l, HoldsG vcC 2 w v l := by
  obtain ⟨fs, und, one, size, types⟩ := vec_fields
  rcases slice_cellsM und_vecs und one (by rw [vec_cells, size]) hf with hcs | ⟨a', len, cap, hcs, hl, hm, hi⟩
  · obtain rfl : v = .slice none 0 0 := by simpa using hcs
    exact ⟨[], holdsG_none w⟩
  · obtain rfl : v = .slice (some a') len cap := by simpa using hcs
    obtain ⟨b, o, spot⟩ := a'
    by_cases h0 : len = 0
    · subst h0
      exact ⟨[], ⟨_, cap, rfl, hl, hm, .inl rfl⟩⟩
    obtain ⟨f0, e0, t0⟩ := field_ofM types 0 3 rfl
    obtain ⟨f1, e1, t1⟩ := field_ofM types 1 3 rfl
    obtain rfl : spot = none := by
      obtain ⟨n, hn⟩ := hi 0 (by omega)
      obtain ⟨v0, y0, c0, r0⟩ := hn 0 f0 e0
      have := World.cell?_spot c0
      simpa [Addr.add] using this
    have add : ∀ k : Nat, (⟨b, o, none⟩ : Addr).add k = ⟨b, o + k, none⟩ := fun k => by cases k <;> simp [Addr.add]
    have each : ∀ i : Nat, ∃ t : Int × Int, i < len → CellsAt vcC w b (o + i * 2) t := by
      intro i
      by_cases hil : i < len
      · obtain ⟨n, hn⟩ := hi i hil
        obtain ⟨v0, y0, c0, r0⟩ := hn 0 f0 e0
        obtain ⟨v1, y1, c1, r1⟩ := hn 1 f1 e1
        rw [t0] at r0; rw [t1] at r1
        rw [size, add, ← Nat.add_assoc] at c0 c1
        obtain ⟨x0, q0, _, b0⟩ := DataW.trod_int und_intv r0
        obtain ⟨x1, q1, _, b1⟩ := DataW.trod_int und_intv r1
        simp only [List.cons.injEq, and_true] at q0 q1
        subst q0 q1
        refine ⟨(x0, x1), fun _ k u hk => ?_⟩
        match k, hk with
        | 0, hk => cases hk; exact c0
        | 1, hk => cases hk; exact c1
      · exact ⟨(0, 0), fun h => absurd h hil⟩
    obtain ⟨f, hf⟩ := Classical.axiomOfChoice each
    refine ⟨(List.range len).map f, ⟨_, cap, by simp, by simpa using hl, hm, .inr ⟨b, o, rfl, fun j x hj => ?_⟩⟩⟩
    rw [List.getElem?_map] at hj
    obtain ⟨i, h1, rfl⟩ := Option.map_eq_some_iff.1 hj
    obtain ⟨h2, h3⟩ := List.getElem?_eq_some_iff.1 h1
    simp at h2 h3
    subst h3
    exact hf j h2
theorem trod_blks {H : Type} {enc : TypeId × Value → H} {w : World} {fuel : Nat} {v : Value} {x : DataW H × List MemPlace} (hf : DataW.trod enc Try.prog w 0 (fun _ => true) true fuel 38 [v] = some x) : ∃ l, HoldsB w v l ∧ l.length ≤ maxLen := by
  rcases open_slice und_blks hf with ⟨hcs, _⟩ | ⟨a', len, cap, m, n, D, Pl, hcs, _, hl, hm, hmm, _, hall⟩
  · obtain rfl : v = .slice none 0 0 := by simpa using hcs
    exact ⟨[], holdsB_none w, by simp⟩
  · obtain rfl : v = .slice (some a') len cap := by simpa using hcs
    obtain ⟨b, o, spot⟩ := a'
    by_cases h0 : len = 0
    · subst h0
      exact ⟨[], ⟨[], ⟨_, cap, rfl, hl, hm, .inl rfl⟩, rfl, fun j v x hv => by simp at hv⟩, by simp⟩
    have each0 : ∀ i, i < len → ∃ u l, w.cell? ((⟨b, o, spot⟩ : Addr).add i) = some u ∧ HoldsI .i64 w u l := by
      intro i hi
      have him : i < m := by rw [hmm]; split <;> omega
      obtain ⟨cells, hc, hread⟩ := hall i him
      obtain ⟨_, hlen, hat⟩ := World.cells?_some hc
      rw [cells_intsv] at hlen hat
      match cells, hlen with
      | [u], _ =>
        obtain ⟨l, hl, _⟩ := ints_of_trod und_ints und_intv cells_intv hread
        have := hat 0 (by omega)
        rw [add_add, Nat.mul_one] at this
        exact ⟨u, l, by simpa using this, hl⟩
    obtain rfl : spot = none := by
      obtain ⟨u, l, c, _⟩ := each0 0 (by omega)
      have := World.cell?_spot c
      simpa [Addr.add] using this
    have add : ∀ k : Nat, (⟨b, o, none⟩ : Addr).add k = ⟨b, o + k, none⟩ := fun k => by cases k <;> simp [Addr.add]
    have each : ∀ i : Nat, ∃ t : SlV × List Int, i < len → w.cell? ⟨b, o + i, none⟩ = some t.1.sl ∧ HoldsI .i64 w t.1.sl t.2 := by
      intro i
      by_cases hil : i < len
      · obtain ⟨u, l, c, h⟩ := each0 i hil
        obtain ⟨p, q, rfl, _⟩ := id h
        exact ⟨((p, l.length, q), l), fun _ => ⟨by rw [← add]; exact c, h⟩⟩
      · exact ⟨((none, 0, 0), []), fun h => absurd h hil⟩
    obtain ⟨f, hf⟩ := Classical.axiomOfChoice each
    refine ⟨(List.range len).map (fun i => (f i).2), ⟨(List.range len).map (fun i => (f i).1), ⟨_, cap, by simp, by simpa using hl, hm, .inr ⟨b, o, rfl, fun j x hj => ?_⟩⟩, by simp, fun j u x hu hx => ?_⟩, by simp; omega⟩
    · rw [List.getElem?_map] at hj
      obtain ⟨i, h1, rfl⟩ := Option.map_eq_some_iff.1 hj
      obtain ⟨h2, h3⟩ := List.getElem?_eq_some_iff.1 h1
      simp at h2 h3
      subst h3
      intro k z hk
      match k, hk with
      | 0, hk =>
        cases hk
        rw [Nat.mul_one, Nat.add_zero]
        exact (hf j h2).1
    · rw [List.getElem?_map] at hu hx
      obtain ⟨i, h1, rfl⟩ := Option.map_eq_some_iff.1 hu
      obtain ⟨i', h1', rfl⟩ := Option.map_eq_some_iff.1 hx
      obtain ⟨h2, h3⟩ := List.getElem?_eq_some_iff.1 h1
      obtain ⟨h2', h3'⟩ := List.getElem?_eq_some_iff.1 h1'
      simp at h2 h3 h2' h3'
      subst h3 h3'
      exact (hf j h2).2
/-- An array of bytes. -/
theorem trod_bytes {H : Type} {enc : TypeId × Value → H} {w : World} {fuel n : Nat} {t : TypeId} {cs : List Value} {x : DataW H × List MemPlace} (ht : Try.prog.underlying t = some (.array n 5)) (hf : DataW.trod enc Try.prog w 0 (fun _ => true) true fuel t cs = some x) (hn : cs.length = n) :
    ∀ i, i < n → ∃ v : Int, 0 ≤ v ∧ v ≤ 255 ∧ cs.getD i undef = .int .u8 v := by
  intro i hi
  obtain ⟨zs, m, _, _, hl, hzl, hz⟩ := DataW.trod_array ht hf
  have h := hz i hi
  rw [cells_u8m, Nat.mul_one] at h
  have hd : (cs.drop i).take 1 = [cs.getD i undef] := by
    have hi' : i < cs.length := by omega
    rw [List.drop_eq_getElem_cons hi', List.take_succ_cons, List.take_zero, List.getD_eq_getElem?_getD, List.getElem?_eq_getElem hi', Option.getD_some]
  rw [hd, List.getElem?_eq_getElem (by omega)] at h
  obtain ⟨v, q, _, b⟩ := DataW.trod_int und_u8v h
  simp only [List.cons.injEq, and_true] at q
  simp [Lit.wf, IntKind.min, IntKind.max, IntKind.signed, IntKind.bits] at b
  exact ⟨v, by omega, by omega, q⟩
theorem und_mbv : ∃ fs, Try.prog.underlying 40 = some (.struct fs) ∧ fs.map (·.type) = #[5, 5, 5, 34, 35, 36, 37, 5, 3, 38, 9] ∧
    fs.map (·.offset) = #[0, 1, 2, 3, 19, 23, 24, 25, 26, 27, 28] :=
  ⟨_, Try.underlying40, by kernel_rfl, by kernel_rfl⟩
theorem mb_cells : Try.prog.cellsOf 40 = 29 ∧ Try.prog.cellsOf 34 = 16 ∧ Try.prog.cellsOf 35 = 4 ∧ Try.prog.cellsOf 37 = 1 ∧ Try.prog.cellsOf 38 = 1 ∧ Try.prog.cellsOf 9 = 1 := ⟨by kernel_rfl, by kernel_rfl, by kernel_rfl, by kernel_rfl, by kernel_rfl, by kernel_rfl⟩
theorem drop_oneM {l : List Value} (k : Nat) (h : k < l.length) : (l.drop k).take 1 = [l.getD k undef] := by
  rw [List.drop_eq_getElem_cons h, List.take_succ_cons, List.take_zero, List.getD_eq_getElem?_getD, List.getElem?_eq_getElem h, Option.getD_some]
theorem len29 (l : List Value) (h : l.length = 29) : l = [l.getD 0 undef, l.getD 1 undef, l.getD 2 undef, l.getD 3 undef, l.getD 4 undef, l.getD 5 undef, l.getD 6 undef, l.getD 7 undef, l.getD 8 undef, l.getD 9 undef, l.getD 10 undef, l.getD 11 undef, l.getD 12 undef, l.getD 13 undef, l.getD 14 undef, l.getD 15 undef, l.getD 16 undef, l.getD 17 undef, l.getD 18 undef, l.getD 19 undef, l.getD 20 undef, l.getD 21 undef, l.getD 22 undef, l.getD 23 undef, l.getD 24 undef, l.getD 25 undef, l.getD 26 undef, l.getD 27 undef, l.getD 28 undef] := by
  match l, h with
  | [_, _, _, _, _, _, _, _, _, _, _, _, _, _, _, _, _, _, _, _, _, _, _, _, _, _, _, _, _], _ => rfl
theorem getD_drop (l : List Value) (k n i : Nat) (hi : i < n) : ((l.drop k).take n).getD i undef = l.getD (k + i) undef := by
  rw [List.getD_eq_getElem?_getD, List.getD_eq_getElem?_getD, List.getElem?_take, if_pos hi, List.getElem?_drop]
theorem bounds_u8v {x : Int} (h : (Lit.int .u8 x).wf = true) : 0 ≤ x ∧ x ≤ 255 := by
  simp [Lit.wf, IntKind.min, IntKind.max, IntKind.signed, IntKind.bits] at h
  omega
theorem bounds_i64v {x : Int} (h : (Lit.int .i64 x).wf = true) : -9223372036854775808 ≤ x ∧ x ≤ 9223372036854775807 := by
  simp [Lit.wf, IntKind.min, IntKind.max, IntKind.signed, IntKind.bits] at h
  omega
/-- Its numbers are such as their types hold. -/
structure MIn (x : MV) : Prop where
  k0 : 0 ≤ x.kind
  k1 : x.kind ≤ 255
  m0 : 0 ≤ x.mode
  m1 : x.mode ≤ 255
  h0 : 0 ≤ x.chroma
  h1 : x.chroma ≤ 255
  p : ∀ y, y ∈ x.pr.l → 0 ≤ y ∧ y ≤ 255
  s : ∀ y, y ∈ x.sb.l → 0 ≤ y ∧ y ≤ 255
  c0 : 0 ≤ x.cbp
  c1 : x.cbp ≤ 255
  q0 : -9223372036854775808 ≤ x.qp
  q1 : x.qp ≤ 9223372036854775807
set_option maxRecDepth 100000 in
set_option maxHeartbeats 2000000 in
theorem trod_mb {H : Type} {enc : TypeId × Value → H} {w : World} {fuel : Nat} {cs : List Value} {x : DataW H × List MemPlace} (hf : DataW.trod enc Try.prog w 0 (fun _ => true) true fuel 40 cs = some x) :
    ∃ (y : MV) (rv vv bv : Value), cs = mC y rv vv bv ∧ MAt w y rv vv bv ∧ MIn y ∧ y.pcm.size ≤ maxLen := by
  obtain ⟨fs, und, types, offs⟩ := und_mbv
  obtain ⟨c29, cP, cS, cV, cB, cT⟩ := mb_cells
  obtain ⟨xs, n, _, _, hlen, hxl, hfield⟩ := DataW.trod_struct und hf
  rw [c29] at hlen
  have hsz : fs.size = 11 := by have := congrArg Array.size types; simpa using this
  have each : ∀ (j : Nat) (T : TypeId) (o : Nat), j < 11 → (fs.map (·.type))[j]? = some T → (fs.map (·.offset))[j]? = some o → ∃ y, DataW.trod enc Try.prog w 0 (fun _ => true) true n T ((cs.drop o).take (Try.prog.cellsOf T)) = some y := by
    intro j T o hj hT ho
    rw [Array.getElem?_map] at hT ho
    obtain ⟨f, h1, h2⟩ := Option.map_eq_some_iff.1 hT
    rw [h1] at ho
    have h3 : f.offset = o := by simpa using ho
    have hr := hfield j f h1
    rw [h2, h3, List.getElem?_eq_getElem (by omega : j < xs.length)] at hr
    exact ⟨_, hr⟩
  rw [types, offs] at each
  obtain ⟨y0, r0⟩ := each 0 5 0 (by omega) rfl rfl
  rw [cells_u8m, drop_oneM 0 (by omega)] at r0
  obtain ⟨v0, q0, _, b0⟩ := DataW.trod_int und_u8v r0
  have e0 := (List.cons.inj q0).1
  have b0 := bounds_u8v b0
  obtain ⟨y1, r1⟩ := each 1 5 1 (by omega) rfl rfl
  rw [cells_u8m, drop_oneM 1 (by omega)] at r1
  obtain ⟨v1, q1, _, b1⟩ := DataW.trod_int und_u8v r1
  have e1 := (List.cons.inj q1).1
  have b1 := bounds_u8v b1
  obtain ⟨y2, r2⟩ := each 2 5 2 (by omega) rfl rfl
  rw [cells_u8m, drop_oneM 2 (by omega)] at r2
  obtain ⟨v2, q2, _, b2⟩ := DataW.trod_int und_u8v r2
  have e2 := (List.cons.inj q2).1
  have b2 := bounds_u8v b2
  obtain ⟨y5, r5⟩ := each 5 36 23 (by omega) rfl rfl
  rw [cells_intsv, drop_oneM 23 (by omega)] at r5
  obtain ⟨l5, h5, _⟩ := ints_of_trod und_ints und_intv cells_intv r5
  obtain ⟨y6, r6⟩ := each 6 37 24 (by omega) rfl rfl
  rw [cV, drop_oneM 24 (by omega)] at r6
  obtain ⟨l6, h6⟩ := trod_vecs r6
  obtain ⟨y7, r7⟩ := each 7 5 25 (by omega) rfl rfl
  rw [cells_u8m, drop_oneM 25 (by omega)] at r7
  obtain ⟨v7, q7, _, b7⟩ := DataW.trod_int und_u8v r7
  have e7 := (List.cons.inj q7).1
  have b7 := bounds_u8v b7
  obtain ⟨y8, r8⟩ := each 8 3 26 (by omega) rfl rfl
  rw [cells_intv, drop_oneM 26 (by omega)] at r8
  obtain ⟨v8, q8, _, b8⟩ := DataW.trod_int und_intv r8
  have e8 := (List.cons.inj q8).1
  have b8 := bounds_i64v b8
  obtain ⟨y9, r9⟩ := each 9 38 27 (by omega) rfl rfl
  rw [cB, drop_oneM 27 (by omega)] at r9
  obtain ⟨l9, h9, _⟩ := trod_blks r9
  obtain ⟨y10, r10⟩ := each 10 9 28 (by omega) rfl rfl
  rw [cT, drop_oneM 28 (by omega)] at r10
  obtain ⟨v10, q10, _, b10⟩ := DataW.trod_string und_strv r10
  have e10 := (List.cons.inj q10).1
  obtain ⟨y3, r3⟩ := each 3 34 3 (by omega) rfl rfl
  rw [cP] at r3
  have z3 := trod_bytes und_p16 r3 (by simp; omega)
  obtain ⟨y4, r4⟩ := each 4 35 19 (by omega) rfl rfl
  rw [cS] at r4
  have z4 := trod_bytes und_s4 r4 (by simp; omega)
  obtain ⟨p0, p0a, p0b, p0e⟩ := z3 0 (by omega)
  rw [getD_drop _ _ _ _ (by omega)] at p0e
  obtain ⟨p1, p1a, p1b, p1e⟩ := z3 1 (by omega)
  rw [getD_drop _ _ _ _ (by omega)] at p1e
  obtain ⟨p2, p2a, p2b, p2e⟩ := z3 2 (by omega)
  rw [getD_drop _ _ _ _ (by omega)] at p2e
  obtain ⟨p3, p3a, p3b, p3e⟩ := z3 3 (by omega)
  rw [getD_drop _ _ _ _ (by omega)] at p3e
  obtain ⟨p4, p4a, p4b, p4e⟩ := z3 4 (by omega)
  rw [getD_drop _ _ _ _ (by omega)] at p4e
  obtain ⟨p5, p5a, p5b, p5e⟩ := z3 5 (by omega)
  rw [getD_drop _ _ _ _ (by omega)] at p5e
  obtain ⟨p6, p6a, p6b, p6e⟩ := z3 6 (by omega)
  rw [getD_drop _ _ _ _ (by omega)] at p6e
  obtain ⟨p7, p7a, p7b, p7e⟩ := z3 7 (by omega)
  rw [getD_drop _ _ _ _ (by omega)] at p7e
  obtain ⟨p8, p8a, p8b, p8e⟩ := z3 8 (by omega)
  rw [getD_drop _ _ _ _ (by omega)] at p8e
  obtain ⟨p9, p9a, p9b, p9e⟩ := z3 9 (by omega)
  rw [getD_drop _ _ _ _ (by omega)] at p9e
  obtain ⟨p10, p10a, p10b, p10e⟩ := z3 10 (by omega)
  rw [getD_drop _ _ _ _ (by omega)] at p10e
  obtain ⟨p11, p11a, p11b, p11e⟩ := z3 11 (by omega)
  rw [getD_drop _ _ _ _ (by omega)] at p11e
  obtain ⟨p12, p12a, p12b, p12e⟩ := z3 12 (by omega)
  rw [getD_drop _ _ _ _ (by omega)] at p12e
  obtain ⟨p13, p13a, p13b, p13e⟩ := z3 13 (by omega)
  rw [getD_drop _ _ _ _ (by omega)] at p13e
  obtain ⟨p14, p14a, p14b, p14e⟩ := z3 14 (by omega)
  rw [getD_drop _ _ _ _ (by omega)] at p14e
  obtain ⟨p15, p15a, p15b, p15e⟩ := z3 15 (by omega)
  rw [getD_drop _ _ _ _ (by omega)] at p15e
  obtain ⟨s0, s0a, s0b, s0e⟩ := z4 0 (by omega)
  rw [getD_drop _ _ _ _ (by omega)] at s0e
  obtain ⟨s1, s1a, s1b, s1e⟩ := z4 1 (by omega)
  rw [getD_drop _ _ _ _ (by omega)] at s1e
  obtain ⟨s2, s2a, s2b, s2e⟩ := z4 2 (by omega)
  rw [getD_drop _ _ _ _ (by omega)] at s2e
  obtain ⟨s3, s3a, s3b, s3e⟩ := z4 3 (by omega)
  rw [getD_drop _ _ _ _ (by omega)] at s3e
  refine ⟨⟨v0, v1, v2, ⟨p0, p1, p2, p3, p4, p5, p6, p7, p8, p9, p10, p11, p12, p13, p14, p15⟩, ⟨s0, s1, s2, s3⟩, l5, l6, v7, v8, l9, v10⟩, cs.getD 23 undef, cs.getD 24 undef, cs.getD 27 undef, ?_, ⟨h5, h6, h9⟩, ⟨b0.1, b0.2, b1.1, b1.2, b2.1, b2.2, ?_, ?_, b7.1, b7.2, b8.1, b8.2⟩, ?_⟩
  · conv => lhs; rw [len29 cs hlen]
    simp only [mC]
    simp only [Nat.reduceAdd] at p0e p1e p2e p3e p4e p5e p6e p7e p8e p9e p10e p11e p12e p13e p14e p15e s0e s1e s2e s3e
    rw [e0, e1, e2, e7, e8, e10, p0e, p1e, p2e, p3e, p4e, p5e, p6e, p7e, p8e, p9e, p10e, p11e, p12e, p13e, p14e, p15e, s0e, s1e, s2e, s3e]
  · intro y hy
    simp only [P16.l, List.mem_cons, List.not_mem_nil, or_false] at hy
    rcases hy with rfl | rfl | rfl | rfl | rfl | rfl | rfl | rfl | rfl | rfl | rfl | rfl | rfl | rfl | rfl | rfl <;> (constructor <;> assumption)
  · intro y hy
    simp only [S4.l, List.mem_cons, List.not_mem_nil, or_false] at hy
    rcases hy with rfl | rfl | rfl | rfl <;> (constructor <;> assumption)
  · exact b10
theorem open_mb {H : Type} {enc : TypeId × Value → H} {w : World} {base : Nat} {v : Value} {d : DataW H} {p : List MemPlace} (k : Value.okWide Try.prog w .any base 40 v) (h : DataW.Trod enc Try.prog w 0 (fun _ => true) true 40 v d p) : ∃ (y : MV) (rv vv bv : Value), v = mV y rv vv bv ∧ MAt w y rv vv bv ∧ MIn y ∧ y.pcm.size ≤ maxLen := by
  obtain ⟨fs, und, _⟩ := und_mbv
  obtain ⟨cs, rfl, hsz⟩ := okWide_struct und k
  obtain ⟨fuel, hf⟩ := h
  obtain ⟨y, rv, vv, bv, hc, hm, hi, hp⟩ := trod_mb hf
  have hx : Value.cells (.agg cs) = cs := by simp [Value.cells]
  rw [hx] at hc
  exact ⟨y, rv, vv, bv, by show Value.agg cs = Value.agg _; congr 1; exact Array.toList_inj.1 hc, hm, hi, hp⟩
end Go.Proofs.Ytfmfknjjhemnoaa

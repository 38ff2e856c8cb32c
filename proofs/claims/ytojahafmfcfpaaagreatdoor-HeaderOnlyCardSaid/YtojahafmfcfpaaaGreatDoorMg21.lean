/- A header and a unit that come in as arguments. -/
/- HeaderChecks: for any header and unit. -/
import Derived.Test.YtojahafmfcfpaaaGreatDoorHlF
import Derived.Test.YtojahafmfcfpaaaGreatDoorArgM
section
set_option maxRecDepth 20000
namespace Go.Proofs.YtojahafmfcfpaaaGreatDoor
open Go.RowKit Go.ChangeShapes Go.WideShapes Go.ChangeAt Go.Deep
set_option linter.unusedVariables false
set_option linter.unusedSimpArgs false

set_option maxRecDepth 100000 in
theorem trod_mods {H : Type} {enc : TypeId × Value → H} {w : World} {fuel : Nat} {cs : List Value} {x : DataW H × List MemPlace} (hf : DataW.trod enc Tryz.prog w 0 (fun _ => true) true fuel 22 cs = some x) : ∃ v l, cs = [v] ∧ HoldsM w v l ∧ OksM l := by
  obtain ⟨fs, und_mod, mod_one, mod_size, mod_types⟩ := mod_fields
  rcases slice_cells und_mods und_mod mod_one (by rw [mod_cells, mod_size]) hf with hcs | ⟨a', len, cap, hcs, hl, hm, hi⟩
  · exact ⟨_, [], hcs, holdsM_none w, fun j x hx => by simp at hx⟩
  · subst hcs
    obtain ⟨b, o, spot⟩ := a'
    by_cases h0 : len = 0
    · subst h0
      exact ⟨_, [], rfl, ⟨_, cap, rfl, hl, hm, .inl rfl⟩, fun j x hx => by simp at hx⟩
    obtain ⟨f0, e0, t0⟩ := field_of mod_types 0 5 rfl
    obtain ⟨f1, e1, t1⟩ := field_of mod_types 1 3 rfl
    obtain ⟨f2, e2, t2⟩ := field_of mod_types 2 3 rfl
    obtain rfl : spot = none := by
      obtain ⟨n, hn⟩ := hi 0 (by omega)
      obtain ⟨v0, y0, c0, r0⟩ := hn 0 f0 e0
      have := World.cell?_spot c0
      simpa [Addr.add] using this
    have add : ∀ k : Nat, (⟨b, o, none⟩ : Addr).add k = ⟨b, o + k, none⟩ := fun k => by cases k <;> simp [Addr.add]
    have each : ∀ i : Nat, ∃ t : Int × Int × Int, i < len → MAt w b (o + i * 3) t ∧ OkM t := by
      intro i
      by_cases hil : i < len
      · obtain ⟨n, hn⟩ := hi i hil
        obtain ⟨v0, y0, c0, r0⟩ := hn 0 f0 e0
        obtain ⟨v1, y1, c1, r1⟩ := hn 1 f1 e1
        obtain ⟨v2, y2, c2, r2⟩ := hn 2 f2 e2
        rw [t0] at r0; rw [t1] at r1; rw [t2] at r2
        rw [mod_size, add] at c0 c1 c2
        obtain ⟨x0, q0, _, b0⟩ := DataW.trod_int und_u8' r0
        obtain ⟨x1, q1, _, b1⟩ := DataW.trod_int und_int' r1
        obtain ⟨x2, q2, _, b2⟩ := DataW.trod_int und_int' r2
        simp only [List.cons.injEq, and_true] at q0 q1 q2
        subst q0 q1 q2
        exact ⟨(x0, x1, x2), fun _ => ⟨⟨c0, c1, c2⟩, bounds_u8 b0, bounds_i64 b1, bounds_i64 b2⟩⟩
      · exact ⟨(0, 0, 0), fun h => absurd h hil⟩
    obtain ⟨f, hf⟩ := Classical.axiomOfChoice each
    refine ⟨_, (List.range len).map f, rfl, ⟨_, cap, by simp, by simpa using hl, hm, .inr ⟨b, o, rfl, fun j x hj => ?_⟩⟩, fun j x hj => ?_⟩
    · rw [List.getElem?_map] at hj
      obtain ⟨i, h1, rfl⟩ := Option.map_eq_some_iff.1 hj
      obtain ⟨h2, h3⟩ := List.getElem?_eq_some_iff.1 h1
      simp at h2 h3
      subst h3
      exact (hf j h2).1
    · rw [List.getElem?_map] at hj
      obtain ⟨i, h1, rfl⟩ := Option.map_eq_some_iff.1 hj
      obtain ⟨h2, h3⟩ := List.getElem?_eq_some_iff.1 h1
      simp at h2 h3
      subst h3
      exact (hf j h2).2
theorem und_hdr : ∃ fs, Tryz.prog.underlying 25 = some (.struct fs) ∧ fs.map (·.type) = #[3, 4, 4, 3, 3, 3, 3, 4, 3, 4, 22, 23, 4, 22, 3, 3, 3, 3, 3] ∧
    fs.map (·.offset) = #[0, 1, 2, 3, 4, 5, 6, 7, 8, 9, 10, 11, 13, 14, 15, 16, 17, 18, 19] :=
  ⟨_, Tryz.underlying25, by kernel_rfl, by kernel_rfl⟩
theorem hdr_cells : Tryz.prog.cellsOf 25 = 20 ∧ Tryz.prog.cellsOf 3 = 1 ∧ Tryz.prog.cellsOf 4 = 1 ∧ Tryz.prog.cellsOf 22 = 1 ∧ Tryz.prog.cellsOf 23 = 2 := ⟨by kernel_rfl, by kernel_rfl, by kernel_rfl, by kernel_rfl, by kernel_rfl⟩
theorem und_boolH : Tryz.prog.underlying 4 = some .bool := by kernel_rfl
theorem und_flH : Tryz.prog.underlying 23 = some (.array 2 4) := by kernel_rfl
theorem len20 (l : List Value) (h : l.length = 20) : l = [l.getD 0 undef, l.getD 1 undef, l.getD 2 undef, l.getD 3 undef, l.getD 4 undef, l.getD 5 undef, l.getD 6 undef, l.getD 7 undef, l.getD 8 undef, l.getD 9 undef, l.getD 10 undef, l.getD 11 undef, l.getD 12 undef, l.getD 13 undef, l.getD 14 undef, l.getD 15 undef, l.getD 16 undef, l.getD 17 undef, l.getD 18 undef, l.getD 19 undef] := by
  match l, h with
  | [_, _, _, _, _, _, _, _, _, _, _, _, _, _, _, _, _, _, _, _], _ => rfl
theorem drop_one {l : List Value} (k : Nat) (h : k < l.length) : (l.drop k).take 1 = [l.getD k undef] := by
  rw [List.drop_eq_getElem_cons h, List.take_succ_cons, List.take_zero, List.getD_eq_getElem?_getD, List.getElem?_eq_getElem h, Option.getD_some]
theorem drop_two {l : List Value} (k : Nat) (h : k + 1 < l.length) : (l.drop k).take 2 = [l.getD k undef, l.getD (k + 1) undef] := by
  rw [List.drop_eq_getElem_cons (by omega), List.take_succ_cons, List.drop_eq_getElem_cons h, List.take_succ_cons, List.take_zero, List.getD_eq_getElem?_getD, List.getElem?_eq_getElem (by omega), List.getD_eq_getElem?_getD, List.getElem?_eq_getElem h, Option.getD_some, Option.getD_some]
set_option maxRecDepth 100000 in
set_option maxHeartbeats 2000000 in
theorem trod_hdr {H : Type} {enc : TypeId × Value → H} {w : World} {fuel : Nat} {cs : List Value} {x : DataW H × List MemPlace} (hf : DataW.trod enc Tryz.prog w 0 (fun _ => true) true fuel 25 cs = some x) :
    ∃ (y : HV) (mv kv : Value), cs = hC y mv kv ∧ HoldsM w mv y.mods ∧ HoldsM w kv y.marks ∧ OksM y.mods ∧ OksM y.marks ∧ -9223372036854775808 ≤ y.qp ∧ y.qp ≤ 9223372036854775807 := by
  obtain ⟨fs, und, types, offs⟩ := und_hdr
  obtain ⟨c20, cI, cB, cM, cF⟩ := hdr_cells
  obtain ⟨xs, n, _, _, hlen, hxl, hfield⟩ := DataW.trod_struct und hf
  rw [c20] at hlen
  have hsz : fs.size = 19 := by have := congrArg Array.size types; simpa using this
  have each : ∀ (j : Nat) (T : TypeId) (o : Nat), j < 19 → (fs.map (·.type))[j]? = some T → (fs.map (·.offset))[j]? = some o → ∃ y, DataW.trod enc Tryz.prog w 0 (fun _ => true) true n T ((cs.drop o).take (Tryz.prog.cellsOf T)) = some y := by
    intro j T o hj hT ho
    rw [Array.getElem?_map] at hT ho
    obtain ⟨f, h1, h2⟩ := Option.map_eq_some_iff.1 hT
    rw [h1] at ho
    have h3 : f.offset = o := by simpa using ho
    have hr := hfield j f h1
    rw [h2, h3, List.getElem?_eq_getElem (by omega : j < xs.length)] at hr
    exact ⟨_, hr⟩
  rw [types, offs] at each
  obtain ⟨y0, r0⟩ := each 0 3 0 (by omega) rfl rfl
  rw [cI, drop_one 0 (by omega)] at r0
  obtain ⟨v0, q0, _, b0⟩ := DataW.trod_int und_int' r0
  obtain ⟨y1, r1⟩ := each 1 4 1 (by omega) rfl rfl
  rw [cB, drop_one 1 (by omega)] at r1
  obtain ⟨v1, q1, _⟩ := DataW.trod_bool und_boolH r1
  obtain ⟨y2, r2⟩ := each 2 4 2 (by omega) rfl rfl
  rw [cB, drop_one 2 (by omega)] at r2
  obtain ⟨v2, q2, _⟩ := DataW.trod_bool und_boolH r2
  obtain ⟨y3, r3⟩ := each 3 3 3 (by omega) rfl rfl
  rw [cI, drop_one 3 (by omega)] at r3
  obtain ⟨v3, q3, _, b3⟩ := DataW.trod_int und_int' r3
  obtain ⟨y4, r4⟩ := each 4 3 4 (by omega) rfl rfl
  rw [cI, drop_one 4 (by omega)] at r4
  obtain ⟨v4, q4, _, b4⟩ := DataW.trod_int und_int' r4
  obtain ⟨y5, r5⟩ := each 5 3 5 (by omega) rfl rfl
  rw [cI, drop_one 5 (by omega)] at r5
  obtain ⟨v5, q5, _, b5⟩ := DataW.trod_int und_int' r5
  obtain ⟨y6, r6⟩ := each 6 3 6 (by omega) rfl rfl
  rw [cI, drop_one 6 (by omega)] at r6
  obtain ⟨v6, q6, _, b6⟩ := DataW.trod_int und_int' r6
  obtain ⟨y7, r7⟩ := each 7 4 7 (by omega) rfl rfl
  rw [cB, drop_one 7 (by omega)] at r7
  obtain ⟨v7, q7, _⟩ := DataW.trod_bool und_boolH r7
  obtain ⟨y8, r8⟩ := each 8 3 8 (by omega) rfl rfl
  rw [cI, drop_one 8 (by omega)] at r8
  obtain ⟨v8, q8, _, b8⟩ := DataW.trod_int und_int' r8
  obtain ⟨y9, r9⟩ := each 9 4 9 (by omega) rfl rfl
  rw [cB, drop_one 9 (by omega)] at r9
  obtain ⟨v9, q9, _⟩ := DataW.trod_bool und_boolH r9
  obtain ⟨y10, r10⟩ := each 10 22 10 (by omega) rfl rfl
  rw [cM, drop_one 10 (by omega)] at r10
  obtain ⟨m10, l10, q10, h10, k10⟩ := trod_mods r10
  obtain ⟨y11, r11⟩ := each 11 23 11 (by omega) rfl rfl
  rw [cF, drop_two 11 (by omega)] at r11
  obtain ⟨zs, m, _, _, _, hzl, hz⟩ := DataW.trod_array und_flH r11
  have z0 := hz 0 (by omega)
  have z1 := hz 1 (by omega)
  rw [cB, List.getElem?_eq_getElem (by omega)] at z0 z1
  simp only [Nat.zero_mul, List.drop_zero, List.take_succ_cons, List.take_zero, Nat.one_mul, List.drop_succ_cons] at z0 z1
  obtain ⟨v11, q11, _⟩ := DataW.trod_bool und_boolH z0
  obtain ⟨v12, q12, _⟩ := DataW.trod_bool und_boolH z1
  obtain ⟨y12, r12⟩ := each 12 4 13 (by omega) rfl rfl
  rw [cB, drop_one 13 (by omega)] at r12
  obtain ⟨v13, q13, _⟩ := DataW.trod_bool und_boolH r12
  obtain ⟨y13, r13⟩ := each 13 22 14 (by omega) rfl rfl
  rw [cM, drop_one 14 (by omega)] at r13
  obtain ⟨m14, l14, q14, h14, k14⟩ := trod_mods r13
  obtain ⟨y14, r14⟩ := each 14 3 15 (by omega) rfl rfl
  rw [cI, drop_one 15 (by omega)] at r14
  obtain ⟨v15, q15, _, b15⟩ := DataW.trod_int und_int' r14
  obtain ⟨y15, r15⟩ := each 15 3 16 (by omega) rfl rfl
  rw [cI, drop_one 16 (by omega)] at r15
  obtain ⟨v16, q16, _, b16⟩ := DataW.trod_int und_int' r15
  obtain ⟨y16, r16⟩ := each 16 3 17 (by omega) rfl rfl
  rw [cI, drop_one 17 (by omega)] at r16
  obtain ⟨v17, q17, _, b17⟩ := DataW.trod_int und_int' r16
  obtain ⟨y17, r17⟩ := each 17 3 18 (by omega) rfl rfl
  rw [cI, drop_one 18 (by omega)] at r17
  obtain ⟨v18, q18, _, b18⟩ := DataW.trod_int und_int' r17
  obtain ⟨y18, r18⟩ := each 18 3 19 (by omega) rfl rfl
  rw [cI, drop_one 19 (by omega)] at r18
  obtain ⟨v19, q19, _, b19⟩ := DataW.trod_int und_int' r18
  simp only [List.cons.injEq, and_true] at q0 q1 q2 q3 q4 q5 q6 q7 q8 q9 q10 q11 q12 q13 q14 q15 q16 q17 q18 q19
  have bq := bounds_i64 b16
  refine ⟨⟨v0, v1, v2, v3, v4, v5, v6, v7, v8, v9, l10, v11, v12, v13, l14, v15, v16, v17, v18, v19⟩, m10, m14, ?_, h10, h14, k10, k14, bq⟩
  rw [len20 cs hlen, q0, q1, q2, q3, q4, q5, q6, q7, q8, q9, q10, q11, q12, q13, q14, q15, q16, q17, q18, q19]
  rfl
theorem und_ppsA : ∃ fs, Tryz.prog.underlying 27 = some (.struct fs) ∧ fs.map (·.type) = #[3, 3, 4, 3, 3, 3, 3, 3, 4, 4] ∧ fs.map (·.offset) = #[0, 1, 2, 3, 4, 5, 6, 7, 8, 9] := ⟨_, Tryz.underlying27, by kernel_rfl, by kernel_rfl⟩
theorem cells_ppsA : Tryz.prog.cellsOf 27 = 10 := by kernel_rfl
theorem len_ppsA (l : List Value) (h : l.length = 10) : l = [l.getD 0 undef, l.getD 1 undef, l.getD 2 undef, l.getD 3 undef, l.getD 4 undef, l.getD 5 undef, l.getD 6 undef, l.getD 7 undef, l.getD 8 undef, l.getD 9 undef] := by
  match l, h with
  | [_, _, _, _, _, _, _, _, _, _], _ => rfl
set_option maxRecDepth 100000 in
set_option maxHeartbeats 2000000 in
theorem trod_ppsA {H : Type} {enc : TypeId × Value → H} {w : World} {fuel : Nat} {cs : List Value} {x : DataW H × List MemPlace} (hf : DataW.trod enc Tryz.prog w 0 (fun _ => true) true fuel 27 cs = some x) :
    ∃ y : PV, cs = pL y := by
  obtain ⟨fs, und, types, offs⟩ := und_ppsA
  obtain ⟨c20, cI, cB, cM, cF⟩ := hdr_cells
  have cU : Tryz.prog.cellsOf 5 = 1 := by kernel_rfl
  obtain ⟨xs, n, _, _, hlen, hxl, hfield⟩ := DataW.trod_struct und hf
  rw [cells_ppsA] at hlen
  have hsz : fs.size = 10 := by have := congrArg Array.size types; simpa using this
  have each : ∀ (j : Nat) (T : TypeId) (o : Nat), j < 10 → (fs.map (·.type))[j]? = some T → (fs.map (·.offset))[j]? = some o → ∃ y, DataW.trod enc Tryz.prog w 0 (fun _ => true) true n T ((cs.drop o).take (Tryz.prog.cellsOf T)) = some y := by
    intro j T o hj hT ho
    rw [Array.getElem?_map] at hT ho
    obtain ⟨f, h1, h2⟩ := Option.map_eq_some_iff.1 hT
    rw [h1] at ho
    have h3 : f.offset = o := by simpa using ho
    have hr := hfield j f h1
    rw [h2, h3, List.getElem?_eq_getElem (by omega : j < xs.length)] at hr
    exact ⟨_, hr⟩
  rw [types, offs] at each
  obtain ⟨y0, r0⟩ := each 0 3 0 (by omega) rfl rfl
  rw [cI, drop_one 0 (by omega)] at r0
  obtain ⟨v0, q0, _, b0⟩ := DataW.trod_int und_int' r0
  simp only [List.cons.injEq, and_true] at q0
  obtain ⟨y1, r1⟩ := each 1 3 1 (by omega) rfl rfl
  rw [cI, drop_one 1 (by omega)] at r1
  obtain ⟨v1, q1, _, b1⟩ := DataW.trod_int und_int' r1
  simp only [List.cons.injEq, and_true] at q1
  obtain ⟨y2, r2⟩ := each 2 4 2 (by omega) rfl rfl
  rw [cB, drop_one 2 (by omega)] at r2
  obtain ⟨v2, q2, _⟩ := DataW.trod_bool und_boolH r2
  simp only [List.cons.injEq, and_true] at q2
  obtain ⟨y3, r3⟩ := each 3 3 3 (by omega) rfl rfl
  rw [cI, drop_one 3 (by omega)] at r3
  obtain ⟨v3, q3, _, b3⟩ := DataW.trod_int und_int' r3
  simp only [List.cons.injEq, and_true] at q3
  obtain ⟨y4, r4⟩ := each 4 3 4 (by omega) rfl rfl
  rw [cI, drop_one 4 (by omega)] at r4
  obtain ⟨v4, q4, _, b4⟩ := DataW.trod_int und_int' r4
  simp only [List.cons.injEq, and_true] at q4
  obtain ⟨y5, r5⟩ := each 5 3 5 (by omega) rfl rfl
  rw [cI, drop_one 5 (by omega)] at r5
  obtain ⟨v5, q5, _, b5⟩ := DataW.trod_int und_int' r5
  simp only [List.cons.injEq, and_true] at q5
  obtain ⟨y6, r6⟩ := each 6 3 6 (by omega) rfl rfl
  rw [cI, drop_one 6 (by omega)] at r6
  obtain ⟨v6, q6, _, b6⟩ := DataW.trod_int und_int' r6
  simp only [List.cons.injEq, and_true] at q6
  obtain ⟨y7, r7⟩ := each 7 3 7 (by omega) rfl rfl
  rw [cI, drop_one 7 (by omega)] at r7
  obtain ⟨v7, q7, _, b7⟩ := DataW.trod_int und_int' r7
  simp only [List.cons.injEq, and_true] at q7
  obtain ⟨y8, r8⟩ := each 8 4 8 (by omega) rfl rfl
  rw [cB, drop_one 8 (by omega)] at r8
  obtain ⟨v8, q8, _⟩ := DataW.trod_bool und_boolH r8
  simp only [List.cons.injEq, and_true] at q8
  obtain ⟨y9, r9⟩ := each 9 4 9 (by omega) rfl rfl
  rw [cB, drop_one 9 (by omega)] at r9
  obtain ⟨v9, q9, _⟩ := DataW.trod_bool und_boolH r9
  simp only [List.cons.injEq, and_true] at q9
  refine ⟨⟨v0, v1, v2, v3, v4, v5, v6, v7, v8, v9⟩, ?_⟩
  rw [len_ppsA cs hlen, q0, q1, q2, q3, q4, q5, q6, q7, q8, q9]
  rfl
theorem und_spsA : ∃ fs, Tryz.prog.underlying 29 = some (.struct fs) ∧ fs.map (·.type) = #[5, 5, 5, 3, 3, 3, 3, 3, 3] ∧ fs.map (·.offset) = #[0, 1, 2, 3, 4, 5, 6, 7, 8] := ⟨_, Tryz.underlying29, by kernel_rfl, by kernel_rfl⟩
theorem cells_spsA : Tryz.prog.cellsOf 29 = 9 := by kernel_rfl
theorem len_spsA (l : List Value) (h : l.length = 9) : l = [l.getD 0 undef, l.getD 1 undef, l.getD 2 undef, l.getD 3 undef, l.getD 4 undef, l.getD 5 undef, l.getD 6 undef, l.getD 7 undef, l.getD 8 undef] := by
  match l, h with
  | [_, _, _, _, _, _, _, _, _], _ => rfl
set_option maxRecDepth 100000 in
set_option maxHeartbeats 2000000 in
theorem trod_spsA {H : Type} {enc : TypeId × Value → H} {w : World} {fuel : Nat} {cs : List Value} {x : DataW H × List MemPlace} (hf : DataW.trod enc Tryz.prog w 0 (fun _ => true) true fuel 29 cs = some x) :
    ∃ y : SV, cs = sL y := by
  obtain ⟨fs, und, types, offs⟩ := und_spsA
  obtain ⟨c20, cI, cB, cM, cF⟩ := hdr_cells
  have cU : Tryz.prog.cellsOf 5 = 1 := by kernel_rfl
  obtain ⟨xs, n, _, _, hlen, hxl, hfield⟩ := DataW.trod_struct und hf
  rw [cells_spsA] at hlen
  have hsz : fs.size = 9 := by have := congrArg Array.size types; simpa using this
  have each : ∀ (j : Nat) (T : TypeId) (o : Nat), j < 9 → (fs.map (·.type))[j]? = some T → (fs.map (·.offset))[j]? = some o → ∃ y, DataW.trod enc Tryz.prog w 0 (fun _ => true) true n T ((cs.drop o).take (Tryz.prog.cellsOf T)) = some y := by
    intro j T o hj hT ho
    rw [Array.getElem?_map] at hT ho
    obtain ⟨f, h1, h2⟩ := Option.map_eq_some_iff.1 hT
    rw [h1] at ho
    have h3 : f.offset = o := by simpa using ho
    have hr := hfield j f h1
    rw [h2, h3, List.getElem?_eq_getElem (by omega : j < xs.length)] at hr
    exact ⟨_, hr⟩
  rw [types, offs] at each
  obtain ⟨y0, r0⟩ := each 0 5 0 (by omega) rfl rfl
  rw [cU, drop_one 0 (by omega)] at r0
  obtain ⟨v0, q0, _, b0⟩ := DataW.trod_int und_u8' r0
  simp only [List.cons.injEq, and_true] at q0
  obtain ⟨y1, r1⟩ := each 1 5 1 (by omega) rfl rfl
  rw [cU, drop_one 1 (by omega)] at r1
  obtain ⟨v1, q1, _, b1⟩ := DataW.trod_int und_u8' r1
  simp only [List.cons.injEq, and_true] at q1
  obtain ⟨y2, r2⟩ := each 2 5 2 (by omega) rfl rfl
  rw [cU, drop_one 2 (by omega)] at r2
  obtain ⟨v2, q2, _, b2⟩ := DataW.trod_int und_u8' r2
  simp only [List.cons.injEq, and_true] at q2
  obtain ⟨y3, r3⟩ := each 3 3 3 (by omega) rfl rfl
  rw [cI, drop_one 3 (by omega)] at r3
  obtain ⟨v3, q3, _, b3⟩ := DataW.trod_int und_int' r3
  simp only [List.cons.injEq, and_true] at q3
  obtain ⟨y4, r4⟩ := each 4 3 4 (by omega) rfl rfl
  rw [cI, drop_one 4 (by omega)] at r4
  obtain ⟨v4, q4, _, b4⟩ := DataW.trod_int und_int' r4
  simp only [List.cons.injEq, and_true] at q4
  obtain ⟨y5, r5⟩ := each 5 3 5 (by omega) rfl rfl
  rw [cI, drop_one 5 (by omega)] at r5
  obtain ⟨v5, q5, _, b5⟩ := DataW.trod_int und_int' r5
  simp only [List.cons.injEq, and_true] at q5
  obtain ⟨y6, r6⟩ := each 6 3 6 (by omega) rfl rfl
  rw [cI, drop_one 6 (by omega)] at r6
  obtain ⟨v6, q6, _, b6⟩ := DataW.trod_int und_int' r6
  simp only [List.cons.injEq, and_true] at q6
  obtain ⟨y7, r7⟩ := each 7 3 7 (by omega) rfl rfl
  rw [cI, drop_one 7 (by omega)] at r7
  obtain ⟨v7, q7, _, b7⟩ := DataW.trod_int und_int' r7
  simp only [List.cons.injEq, and_true] at q7
  obtain ⟨y8, r8⟩ := each 8 3 8 (by omega) rfl rfl
  rw [cI, drop_one 8 (by omega)] at r8
  obtain ⟨v8, q8, _, b8⟩ := DataW.trod_int und_int' r8
  simp only [List.cons.injEq, and_true] at q8
  refine ⟨⟨v0, v1, v2, v3, v4, v5, v6, v7, v8⟩, ?_⟩
  rw [len_spsA cs hlen, q0, q1, q2, q3, q4, q5, q6, q7, q8]
  rfl
theorem und_unitA : ∃ fs, Tryz.prog.underlying 31 = some (.struct fs) ∧ fs.map (·.type) = #[5, 4, 27, 29] ∧ fs.map (·.offset) = #[0, 1, 2, 12] := ⟨_, Tryz.underlying31, by kernel_rfl, by kernel_rfl⟩
theorem cells_unitA : Tryz.prog.cellsOf 31 = 21 := by kernel_rfl
theorem len_unitA (l : List Value) (h : l.length = 21) : l = [l.getD 0 undef, l.getD 1 undef, l.getD 2 undef, l.getD 3 undef, l.getD 4 undef, l.getD 5 undef, l.getD 6 undef, l.getD 7 undef, l.getD 8 undef, l.getD 9 undef, l.getD 10 undef, l.getD 11 undef, l.getD 12 undef, l.getD 13 undef, l.getD 14 undef, l.getD 15 undef, l.getD 16 undef, l.getD 17 undef, l.getD 18 undef, l.getD 19 undef, l.getD 20 undef] := by
  match l, h with
  | [_, _, _, _, _, _, _, _, _, _, _, _, _, _, _, _, _, _, _, _, _], _ => rfl
set_option maxRecDepth 100000 in
set_option maxHeartbeats 2000000 in
theorem trod_unitA {H : Type} {enc : TypeId × Value → H} {w : World} {fuel : Nat} {cs : List Value} {x : DataW H × List MemPlace} (hf : DataW.trod enc Tryz.prog w 0 (fun _ => true) true fuel 31 cs = some x) :
    ∃ un : UN, cs = uL un ∧ 0 ≤ un.ref := by
  obtain ⟨fs, und, types, offs⟩ := und_unitA
  obtain ⟨c20, cI, cB, cM, cF⟩ := hdr_cells
  have cU : Tryz.prog.cellsOf 5 = 1 := by kernel_rfl
  obtain ⟨xs, n, _, _, hlen, hxl, hfield⟩ := DataW.trod_struct und hf
  rw [cells_unitA] at hlen
  have hsz : fs.size = 4 := by have := congrArg Array.size types; simpa using this
  have each : ∀ (j : Nat) (T : TypeId) (o : Nat), j < 4 → (fs.map (·.type))[j]? = some T → (fs.map (·.offset))[j]? = some o → ∃ y, DataW.trod enc Tryz.prog w 0 (fun _ => true) true n T ((cs.drop o).take (Tryz.prog.cellsOf T)) = some y := by
    intro j T o hj hT ho
    rw [Array.getElem?_map] at hT ho
    obtain ⟨f, h1, h2⟩ := Option.map_eq_some_iff.1 hT
    rw [h1] at ho
    have h3 : f.offset = o := by simpa using ho
    have hr := hfield j f h1
    rw [h2, h3, List.getElem?_eq_getElem (by omega : j < xs.length)] at hr
    exact ⟨_, hr⟩
  rw [types, offs] at each
  obtain ⟨y0, r0⟩ := each 0 5 0 (by omega) rfl rfl
  rw [cU, drop_one 0 (by omega)] at r0
  obtain ⟨v0, q0, _, b0⟩ := DataW.trod_int und_u8' r0
  simp only [List.cons.injEq, and_true] at q0
  obtain ⟨y1, r1⟩ := each 1 4 1 (by omega) rfl rfl
  rw [cB, drop_one 1 (by omega)] at r1
  obtain ⟨v1, q1, _⟩ := DataW.trod_bool und_boolH r1
  simp only [List.cons.injEq, and_true] at q1
  obtain ⟨y2, r2⟩ := each 2 27 2 (by omega) rfl rfl
  obtain ⟨v2, q2⟩ := trod_ppsA r2
  rw [cells_ppsA] at q2
  obtain ⟨y3, r3⟩ := each 3 29 12 (by omega) rfl rfl
  obtain ⟨v12, q12⟩ := trod_spsA r3
  rw [cells_spsA] at q12
  have bu := bounds_u8 b0
  refine ⟨⟨v0, v1, v2, v12⟩, ?_, bu.1⟩
  unfold uL
  rw [← q2, ← q12, ← q0, ← q1]
  match cs, hlen with
  | [_, _, _, _, _, _, _, _, _, _, _, _, _, _, _, _, _, _, _, _, _], _ => rfl
end Go.Proofs.YtojahafmfcfpaaaGreatDoor

end
section
set_option maxRecDepth 20000
namespace Go.Proofs.YtojahafmfcfpaaaGreatDoor
open Go.RowKit Go.ChangeShapes Go.WideShapes Go.ChangeAt
set_option linter.unusedVariables false
set_option linter.unusedSimpArgs false

theorem agg_of {cs : Array Value} {l : List Value} (h : cs.toList = l) : Value.agg cs = .agg l.toArray := by rw [← h]
set_option maxRecDepth 100000 in
theorem open_hdr {H : Type} {enc : TypeId × Value → H} {w : World} {base : Nat} {v : Value} {d : DataW H} {p : List MemPlace} (k : Value.okWide Tryz.prog w .any base 25 v) (h : DataW.Trod enc Tryz.prog w 0 (fun _ => true) true 25 v d p) :
    ∃ (y : HV) (mv kv : Value), v = hV y mv kv ∧ HoldsM w mv y.mods ∧ HoldsM w kv y.marks ∧ OksM y.mods ∧ OksM y.marks ∧ -9223372036854775808 ≤ y.qp ∧ y.qp ≤ 9223372036854775807 := by
  obtain ⟨fs, und, _⟩ := und_hdr
  obtain ⟨cs, rfl, _⟩ := okWide_struct und k
  obtain ⟨fuel, hf⟩ := h
  obtain ⟨y, mv, kv, e, r⟩ := trod_hdr hf
  have hcs : Value.cells (.agg cs) = cs := by simp [Value.cells]
  rw [hcs] at e
  exact ⟨y, mv, kv, agg_of e, r⟩
set_option maxRecDepth 100000 in
theorem open_unitA {H : Type} {enc : TypeId × Value → H} {w : World} {base : Nat} {v : Value} {d : DataW H} {p : List MemPlace} (k : Value.okWide Tryz.prog w .any base 31 v) (h : DataW.Trod enc Tryz.prog w 0 (fun _ => true) true 31 v d p) :
    ∃ un : UN, v = uV un ∧ 0 ≤ un.ref := by
  obtain ⟨fs, und, _⟩ := und_unitA
  obtain ⟨cs, rfl, _⟩ := okWide_struct und k
  obtain ⟨fuel, hf⟩ := h
  obtain ⟨un, e, r⟩ := trod_unitA hf
  have hcs : Value.cells (.agg cs) = cs := by simp [Value.cells]
  rw [hcs] at e
  exact ⟨un, agg_of e, r⟩
set_option maxRecDepth 100000 in
theorem headerChecks_core {H : Type} {enc : TypeId × Value → H} (W : World) (base : Nat) (hV : Vars W)
    (v0 : Value) (d0 : DataW H) (p0 : List MemPlace) (k0 : Value.okWide Tryz.prog W .any base 25 v0) (h0 : DataW.Trod enc Tryz.prog W 0 (fun _ => true) true 25 v0 d0 p0)
    (v1 : Value) (d1 : DataW H) (p1 : List MemPlace) (k1 : Value.okWide Tryz.prog W .any base 31 v1) (h1 : DataW.Trod enc Tryz.prog W 0 (fun _ => true) true 31 v1 d1 p1) :
    Calls Tryz.prog 3 #[v0, v1] W fun e w' => e = .returned (.bool true) ∧ Below W.heap.size W w' := by
  obtain ⟨y, mv, kv, rfl, j1, j2, o1, o2, q0, q1⟩ := open_hdr k0 h0
  obtain ⟨un, rfl, r0⟩ := open_unitA k1 h1
  exact (hchecks_any y un mv kv W hV j1 j2 o1 o2 r0 q0 q1).mono fun e w' ⟨he, ho⟩ => ⟨he, ho.below (Nat.le_refl _) (by simp)⟩
end Go.Proofs.YtojahafmfcfpaaaGreatDoor

end

/- The laws' helpers: the chapter's examples. -/
import Derived.Test.YtjjjfmnhdnajkaaGreatDoorMg19
import Derived.Test.YtjjjfmnhdnajkaaGreatDoorMg18
import Derived.Test.YtjjjfmnhdnajkaaGreatDoorQheld
namespace Go.Proofs.YtjjjfmnhdnajkaaGreatDoor
open Go.RowKit
set_option linter.unusedVariables false
set_option linter.unusedSimpArgs false

def exH : HV := { h0 with intra := true }
def exM : PV := { plainP with cab := true, db := true }
theorem ex_bits : chars (hBits ⟨1, true, plainP, plainS⟩ exH) = ⟨#[49, 48, 49, 49, 49, 48, 48, 48, 48, 49, 48, 48, 48, 48, 48, 48, 49]⟩ ∧ chars (hBits ⟨0, false, plainP, plainS⟩ exH) = ⟨#[49, 48, 49, 49, 49, 48, 48, 48, 48, 48, 48, 48, 48, 49]⟩ ∧
    chars (hBits ⟨1, false, exM, plainS⟩ h0) = ⟨#[49, 49, 49, 48, 48, 48, 48, 48, 48, 48, 48, 48, 48, 48, 49, 49, 49, 49, 49]⟩ := by decide +kernel
theorem ex_checks : checkH ⟨1, true, plainP, plainS⟩ h0 = 9 ∧ checkH ⟨1, true, plainP, plainS⟩ { exH with fi := 1 } = 3 ∧ checkH ⟨1, true, plainP, plainS⟩ { exH with over := true } = 2 ∧ checkH ⟨0, true, plainP, plainS⟩ exH = 2 ∧ checkH ⟨1, true, plainP, plainS⟩ { exH with qp := -27 } = 3 := by decide +kernel
/-- A struct is loaded from its block: the operation alone. -/
theorem wp_load_op {P : Program} {w : World} {o : Oper} {a : Act} {K : Act → World → Prop} {Q : Exit → Act → World → Prop} (t : TypeId) (x : Operand) (ho : o.op = .load t x) (k : Nat) (T : TypeId) (cs : List Value)
    (hx : a.eval x = .pointer (some ⟨k, 0, none⟩)) (hB : Blk w k T cs.toArray) (hl : ∀ w, (∀ j v, cs[j]? = some v → w.cell? ⟨k, j, none⟩ = some v) → (Instr.loadAt t (.pointer (some ⟨k, 0, none⟩))).run P w = .ok (.agg cs.toArray) w)
    (h : K (a.put o.dst (.agg cs.toArray)) w) : o.wp P a w K Q := by
  have hl' := hl w (fun j v hj => hB.cell (by simpa using hj))
  unfold Oper.wp execOp
  simp only [ho, hx]
  simp [hl', Result.andThen]
  exact h
/-- A struct is stored into its block: the operation alone. -/
theorem wp_store_op {P : Program} {w : World} {o : Oper} {a : Act} {K : Act → World → Prop} {Q : Exit → Act → World → Prop} (t : TypeId) (x y : Operand) (ho : o.op = .store t x y) (k : Nat) (T : TypeId) (A : Array Value) (cs : List Value)
    (hx : a.eval x = .pointer (some ⟨k, 0, none⟩)) (hy : a.eval y = .agg cs.toArray) (hi : (P.info? t).map (·.size) = some cs.length) (hB : Blk w k T A) (hl : cs.length = A.size) (h1 : ∀ v ∈ cs, v.oneCell' = true)
    (h : ∀ w', Blk w' k T cs.toArray → Only [k] w w' → K (a.put o.dst undef) w') : o.wp P a w K Q := by
  have hst := run_storeCells_cells (P := P) k 0 cs 0 w (fun j hj => Option.isSome_iff_exists.2 ⟨_, by simp only [Nat.zero_add]; exact hB.cell (Array.getElem?_eq_getElem (by omega))⟩) (fun j hj => hB.frozen _) h1
  have hb := hB.sets cs 0
  rw [setsA_full hl] at hb
  have h2 := h _ hb (only_setCells cs 0 w)
  unfold Oper.wp execOp
  cases hq : P.info? t with
  | none => simp [hq] at hi
  | some i =>
    have hs : cs.length = i.size := by simp [hq] at hi; omega
    simp only [ho, hx, hy, Instr.storeAt, Instr.sureAddr, Sem.run_bind, Sem.run_pure, Result.andThen_ok]
    simp [storeVar, sizeOf, typeInfo, hq, Value.cells, hs, hst, Result.andThen]
    exact h2
theorem oksM_nil : OksM [] := fun j x h => by simp at h
set_option maxRecDepth 100000 in
set_option maxHeartbeats 8000000 in
theorem hawake_any (w : World) (hVr : Vars w) : Calls Tryz.prog 14 #[] w fun e w' => e = .returned (.bool true) ∧ Only [] w w' := by
  have VV := hid hVr
  clear hVr
  go_enter Tryz.func14, Tryz.ntmps14
  go_upto_region 1 with (fail)
  have NL := hid (show ∀ (x : HV), True from fun _ => trivial)
  go_upto_region 2 with (first
    | (refine store_blk rfl 34 _ _ rfl w.heap.size 0 _ _ (hC exH (.slice none 0 0) (.slice none 0 0)) rfl rfl (info_hdr' _ _ _) ((Blk.new w _ _).only ((Only.refl [] _).alloc _) (by simp)) (by simp [hC]) (one_hC _ rfl rfl) ?_; intro w1 hB1 hO1; rw [setsA_full (by simp [hC])] at hB1)
    | (refine store_blk rfl 34 _ _ rfl (w.heap.size + 1) 0 _ _ (hC h0 (.slice none 0 0) (.slice none 0 0)) rfl rfl (info_hdr' _ _ _) (by have := (Blk.new (w.alloc (.cells (hC h0 (.slice none 0 0) (.slice none 0 0)).toArray 34)) 34 (hC h0 (.slice none 0 0) (.slice none 0 0)).toArray).only hO1 (by simp); rwa [World.size_alloc] at this) (by simp [hC]) (one_hC _ rfl rfl) ?_; intro w2 hB2 hO2; rw [setsA_full (by simp [hC])] at hB2))
  have O2 := hid (show Only [] w w2 from ((((Only.refl [] w).alloc _).alloc _).trans2 hO1 (fun y hy => .inr (by simp at hy; omega))).trans2 hO2 (fun y hy => .inr (by simp at hy; omega)))
  have BH := hid (hB1.only hO2 (by simp))
  have BZ := hid hB2
  obtain ⟨X, hX⟩ : ∃ X, X = w.heap.size := ⟨_, rfl⟩
  rw [← hX] at BH BZ ⊢
  clear hB1 hB2 hO1 hO2 NL hX
  go_wp2_with fail
  refine (plain7_any _).mono ?_
  rintro e w3 ⟨rfl, o3⟩
  go_wp2_with fail
  refine (plain6_any _).mono ?_
  rintro e w4 ⟨rfl, o4⟩
  have O4 := hid (O2.out.trans (o3.trans o4))
  have BH4 := hid (BH.out.only (o3.trans o4) (by simp))
  have BZ4 := hid (BZ.out.only (o3.trans o4) (by simp))
  clear o3 o4 BH BZ O2
  go_upto_region 3 with (first
    | (refine store_blk rfl 24 _ _ rfl w4.heap.size 0 _ _ (pL plainP) rfl rfl info_pps ((Blk.new w4 _ _).only ((Only.refl [] _).alloc _) (by simp)) (by simp [pL]) (one_pL _) ?_; intro w5 hB5 hO5; rw [setsA_full (by simp [pL])] at hB5)
    | (refine store_blk rfl 27 _ _ rfl (w4.heap.size + 1) 0 _ _ (sL plainS) rfl rfl info_sps (by have := (Blk.new (w4.alloc (.cells (pL p0).toArray 24)) 27 (sL s0).toArray).only hO5 (by simp); rwa [World.size_alloc] at this) (by simp [sL]) (one_sL _) ?_; intro w6 hB6 hO6; rw [setsA_full (by simp [sL])] at hB6))
  have o6 : Only [] w4 w6 := ((((Only.refl [] w4).alloc _).alloc _).trans2 hO5 (fun y hy => .inr (by simp at hy; omega))).trans2 hO6 (fun y hy => .inr (by simp at hy; omega))
  have O6 := hid (O4.out.trans o6)
  have BH6 := hid (BH4.out.only o6 (by simp))
  have BZ6 := hid (BZ4.out.only o6 (by simp))
  have BP6 := hid (hB5.only hO6 (by simp))
  have BS6 := hid hB6
  obtain ⟨A, hA⟩ : ∃ A, A = w4.heap.size := ⟨_, rfl⟩
  rw [← hA] at BP6 BS6 ⊢
  clear hB5 hB6 hO5 hO6 o6 hA BH4 BZ4 O4
  go_upto_region 4 with (first
    | (refine load_blk rfl 24 _ rfl A _ (pL plainP) rfl BP6.out (hl_pps _ _) ?_)
    | (refine store_blk rfl 24 _ _ rfl w6.heap.size 0 _ _ (pL plainP) rfl rfl info_pps (Blk.new w6 _ _) (by simp [pL]) (one_pL _) ?_; intro w7 hB7 hO7; rw [setsA_full (by simp [pL])] at hB7))
  have o7 : Only [] w6 w7 := ((Only.refl [] w6).alloc _).trans2 hO7 (fun y hy => .inr (by simp at hy; omega))
  obtain ⟨C, hC'⟩ : ∃ C, C = w6.heap.size := ⟨_, rfl⟩
  have LC : w.heap.size ≤ C := by rw [hC']; exact O6.out.size
  have LCN : X < C ∧ X + 1 < C ∧ A < C ∧ A + 1 < C := by rw [hC']; exact ⟨BH6.out.lt, BZ6.out.lt, BP6.out.lt, BS6.out.lt⟩
  rw [← hC'] at hB7 ⊢
  have HC := hid hC'
  clear hC'
  have x2 := hB7.cell (i := 2) (v := .bool false) rfl
  have y2 := hB7.frozen 2
  have x8 := hB7.cell (i := 8) (v := .bool false) rfl
  have y8 := hB7.frozen 8
  have b8 := (hB7.set 2 (.bool true)).set 8 (.bool true)
  have o8 : Only [C] w7 ((w7.setCell ⟨C, 2, none⟩ (.bool true)).setCell ⟨C, 8, none⟩ (.bool true)) := ((Only.refl _ _).setCell (.inl (by simp)) _).setCell (.inl (by simp)) _
  go_upto_region 5 with (fail)
  clear x2 y2 x8 y8
  obtain ⟨w8, hw8⟩ : ∃ w8, w8 = (w7.setCell ⟨C, 2, none⟩ (.bool true)).setCell ⟨C, 8, none⟩ (.bool true) := ⟨_, rfl⟩
  rw [← hw8] at b8 o8 ⊢
  have O8 := hid (show Only [] w w8 from (O6.out.trans o7).trans2 o8 (fun y hy => .inr (by simp at hy; omega)))
  have o68 : Only [] w6 w8 := o7.trans2 o8 (fun y hy => .inr (by have := HC.out; simp at hy; omega))
  have BH8 := hid (BH6.out.only o68 (by simp))
  have BZ8 := hid (BZ6.out.only o68 (by simp))
  have BP8 := hid (BP6.out.only o68 (by simp))
  have BS8 := hid (BS6.out.only o68 (by simp))
  have BM8 := hid (show Blk w8 C 24 (pL exM).toArray from b8)
  clear hw8 b8 o8 o68 o7 hB7 hO7 LC LCN HC BH6 BZ6 BP6 BS6 O6
  have V8 := hid (VV.out.only0 O8.out)
  have EB := hid ex_bits
  have T1 := hid (fun w' (o : Only [] w8 w') => by have := hbits_any exH ⟨1, true, plainP, plainS⟩ (.slice none 0 0) (.slice none 0 0) w' (V8.out.only0 o) (holdsM_none _) (holdsM_none _) oksM_nil oksM_nil (by simp); rw [EB.out.1] at this; exact this)
  have T2 := hid (fun w' (o : Only [] w8 w') => by have := hbits_any exH ⟨0, false, plainP, plainS⟩ (.slice none 0 0) (.slice none 0 0) w' (V8.out.only0 o) (holdsM_none _) (holdsM_none _) oksM_nil oksM_nil (by simp); rw [EB.out.2.1] at this; exact this)
  have T3 := hid (fun w' (o : Only [] w8 w') => by have := hbits_any h0 ⟨1, false, exM, plainS⟩ (.slice none 0 0) (.slice none 0 0) w' (V8.out.only0 o) (holdsM_none _) (holdsM_none _) oksM_nil oksM_nil (by simp); rw [EB.out.2.2] at this; exact this)
  have o9 : Only [] w8 w8 := Only.refl _ _
  go_wp2_with (first
    | (refine load_blk rfl 34 _ rfl X _ [.int .i64 0, .bool true, .bool false, .int .i64 0, .int .i64 0, .int .i64 0, .int .i64 0, .bool false, .int .i64 0, .bool false, .slice none 0 0, .bool false, .bool false, .bool false, .slice none 0 0, .int .i64 0, .int .i64 0, .int .i64 0, .int .i64 0, .int .i64 0] rfl (BH8.out.only o9 (by simp)) (hl_hdr _ exH (.slice none 0 0) (.slice none 0 0)) ?_)
    | (refine load_blk rfl 24 _ rfl A _ [.int .i64 0, .int .i64 0, .bool false, .int .i64 1, .int .i64 1, .int .i64 0, .int .i64 0, .int .i64 0, .bool false, .bool false] rfl (BP8.out.only o9 (by simp)) (hl_pps _ plainP) ?_)
    | (refine load_blk rfl 27 _ rfl (A + 1) _ [.int .u8 77, .int .u8 0, .int .u8 10, .int .i64 0, .int .i64 4, .int .i64 4, .int .i64 1, .int .i64 1, .int .i64 1] rfl (BS8.out.only o9 (by simp)) (hl_sps _ plainS) ?_))
  refine (T1.out w8 o9).mono ?_
  rintro e w9 ⟨rfl, p9⟩
  clear o9
  have o9 : Only [] w8 w9 := p9
  clear p9
  go_wp2_with (first
    | (go_big_want; refine wp_load_op 34 _ rfl X _ [.int .i64 0, .bool true, .bool false, .int .i64 0, .int .i64 0, .int .i64 0, .int .i64 0, .bool false, .int .i64 0, .bool false, .slice none 0 0, .bool false, .bool false, .bool false, .slice none 0 0, .int .i64 0, .int .i64 0, .int .i64 0, .int .i64 0, .int .i64 0] rfl (BH8.out.only o9 (by simp)) (hl_hdr _ exH (.slice none 0 0) (.slice none 0 0)) ?_; simp only [Act.put, List.setIfInBounds_toArray, List.set_cons_zero, List.set_cons_succ])
    | (go_big_want; refine wp_load_op 24 _ rfl A _ [.int .i64 0, .int .i64 0, .bool false, .int .i64 1, .int .i64 1, .int .i64 0, .int .i64 0, .int .i64 0, .bool false, .bool false] rfl (BP8.out.only o9 (by simp)) (hl_pps _ plainP) ?_; simp only [Act.put, List.setIfInBounds_toArray, List.set_cons_zero, List.set_cons_succ])
    | (go_big_want; refine wp_load_op 27 _ rfl (A + 1) _ [.int .u8 77, .int .u8 0, .int .u8 10, .int .i64 0, .int .i64 4, .int .i64 4, .int .i64 1, .int .i64 1, .int .i64 1] rfl (BS8.out.only o9 (by simp)) (hl_sps _ plainS) ?_; simp only [Act.put, List.setIfInBounds_toArray, List.set_cons_zero, List.set_cons_succ]))
  refine (T2.out w9 o9).mono ?_
  rintro e w10 ⟨rfl, p10⟩
  have o10 : Only [] w8 w10 := o9.trans p10
  clear p10 o9
  go_wp2_with (first
    | (go_big_want; refine wp_load_op 34 _ rfl (X + 1) _ [.int .i64 0, .bool false, .bool false, .int .i64 0, .int .i64 0, .int .i64 0, .int .i64 0, .bool false, .int .i64 0, .bool false, .slice none 0 0, .bool false, .bool false, .bool false, .slice none 0 0, .int .i64 0, .int .i64 0, .int .i64 0, .int .i64 0, .int .i64 0] rfl (BZ8.out.only o10 (by simp)) (hl_hdr _ h0 (.slice none 0 0) (.slice none 0 0)) ?_; simp only [Act.put, List.setIfInBounds_toArray, List.set_cons_zero, List.set_cons_succ])
    | (go_big_want; refine wp_load_op 24 _ rfl C _ [.int .i64 0, .int .i64 0, .bool true, .int .i64 1, .int .i64 1, .int .i64 0, .int .i64 0, .int .i64 0, .bool true, .bool false] rfl (BM8.out.only o10 (by simp)) (hl_pps _ exM) ?_; simp only [Act.put, List.setIfInBounds_toArray, List.set_cons_zero, List.set_cons_succ])
    | (go_big_want; refine wp_load_op 27 _ rfl (A + 1) _ [.int .u8 77, .int .u8 0, .int .u8 10, .int .i64 0, .int .i64 4, .int .i64 4, .int .i64 1, .int .i64 1, .int .i64 1] rfl (BS8.out.only o10 (by simp)) (hl_sps _ plainS) ?_; simp only [Act.put, List.setIfInBounds_toArray, List.set_cons_zero, List.set_cons_succ]))
  refine (T3.out w10 o10).mono ?_
  rintro e w11 ⟨rfl, p11⟩
  have o11 : Only [] w8 w11 := o10.trans p11
  clear p11 o10 T1 T2 T3 EB
  go_upto_region 7 with (fail)
  have LD := hid (fun w (h : Only [] w11 w) => hl_hdr X exH (.slice none 0 0) (.slice none 0 0) w (fun j v hj => ((BH8.out.only o11 (by simp)).only h (by simp)).cell (by simpa using hj)))
  go_cut [6, 7, 8] from 38 to 40 (fun s6 s7 s8 wx => ∃ b6 b7 b8, s6 = .pointer (some ⟨b6, 0, none⟩) ∧ s7 = .pointer (some ⟨b7, 0, none⟩) ∧ s8 = .pointer (some ⟨b8, 0, none⟩) ∧ Blk wx b6 34 (hC exH (.slice none 0 0) (.slice none 0 0)).toArray ∧ Blk wx b7 34 (hC exH (.slice none 0 0) (.slice none 0 0)).toArray ∧ Blk wx b8 34 (hC exH (.slice none 0 0) (.slice none 0 0)).toArray ∧
    w11.heap.size ≤ b6 ∧ w11.heap.size ≤ b7 ∧ w11.heap.size ≤ b8 ∧ b6 ≠ b7 ∧ b6 ≠ b8 ∧ b7 ≠ b8 ∧ Only [] w11 wx)
  case first =>
    refine wp_region_held_drew (S := fun w' => Only [] w11 w') (by kernel_rfl) (Only.refl [] w11).drew (fun hS => ?_)
    generalize w11.drew = wd at *
    refine wpAnyH_read 0 rfl (by kernel_rfl) (by kernel_rfl) (by kernel_rfl) (fun _ _ _ h => h) hS (yields_load 34 _ (by rfl) rfl ⟨X, 0, none⟩ (hC exH (.slice none 0 0) (.slice none 0 0)) rfl LD.out) ?_
    simp only [Act.put, List.setIfInBounds_toArray, List.set_cons_zero, List.set_cons_succ]
    refine wpAnyH_read 1 rfl (by kernel_rfl) (by kernel_rfl) (by kernel_rfl) (fun _ _ _ h => h) hS (yields_load 34 _ (by rfl) rfl ⟨X, 0, none⟩ (hC exH (.slice none 0 0) (.slice none 0 0)) rfl LD.out) ?_
    simp only [Act.put, List.setIfInBounds_toArray, List.set_cons_zero, List.set_cons_succ]
    refine wpAnyH_read 2 rfl (by kernel_rfl) (by kernel_rfl) (by kernel_rfl) (fun _ _ _ h => h) hS (yields_load 34 _ (by rfl) rfl ⟨X, 0, none⟩ (hC exH (.slice none 0 0) (.slice none 0 0)) rfl LD.out) ?_
    simp only [Act.put, List.setIfInBounds_toArray, List.set_cons_zero, List.set_cons_succ]
    have zb := fun (w : World) => Blk.new w 34 (hC h0 (.slice none 0 0) (.slice none 0 0)).toArray
    obtain ⟨W3, hW3⟩ : ∃ W3, W3 = ((wd.alloc (.cells (hC h0 (.slice none 0 0) (.slice none 0 0)).toArray 34)).alloc (.cells (hC h0 (.slice none 0 0) (.slice none 0 0)).toArray 34)).alloc (.cells (hC h0 (.slice none 0 0) (.slice none 0 0)).toArray 34) := ⟨_, rfl⟩
    have Z0 := hid (show Blk W3 wd.heap.size 34 (hC h0 (.slice none 0 0) (.slice none 0 0)).toArray from hW3 ▸ ((zb wd).only (((Only.refl [] _).alloc _).alloc _) (by simp)))
    have Z1 := hid (show Blk W3 (wd.heap.size + 1) 34 (hC h0 (.slice none 0 0) (.slice none 0 0)).toArray from by
      have := (zb (wd.alloc (.cells (hC h0 (.slice none 0 0) (.slice none 0 0)).toArray 34))).only ((Only.refl [] _).alloc (.cells (hC h0 (.slice none 0 0) (.slice none 0 0)).toArray 34)) (by simp)
      rw [World.size_alloc] at this
      exact hW3 ▸ this)
    have Z2 := hid (show Blk W3 (wd.heap.size + 1 + 1) 34 (hC h0 (.slice none 0 0) (.slice none 0 0)).toArray from by
      have := zb ((wd.alloc (.cells (hC h0 (.slice none 0 0) (.slice none 0 0)).toArray 34)).alloc (.cells (hC h0 (.slice none 0 0) (.slice none 0 0)).toArray 34))
      rw [World.size_alloc, World.size_alloc] at this
      exact hW3 ▸ this)
    have S3 := hid (show Only [] w11 W3 from hW3 ▸ (((hS.alloc _).alloc _).alloc _))
    have NN := hid hS.size
    simp only [hC, h0] at hW3
    clear zb
    refine wpAnyH_all (rs := [3, 4, 5]) (by kernel_rfl) (by simp) (fun i hi => ?_)
    simp only [List.mem_cons, List.not_mem_nil, or_false] at hi
    rcases hi with rfl | rfl | rfl
    · skip
      refine wpOp_step (o := _) rfl (fun K hK => ?_)
      go_simp
      refine hK _ _ ⟨hS.alloc _, ?_⟩
      clear hK K
      refine wpAnyH_all (rs := [4, 5]) (by kernel_rfl) (by simp) (fun i hi => ?_)
      simp only [List.mem_cons, List.not_mem_nil, or_false] at hi
      rcases hi with rfl | rfl
      · skip
        refine wpOp_step (o := _) rfl (fun K hK => ?_)
        go_simp
        refine hK _ _ ⟨(hS.alloc _).alloc _, ?_⟩
        clear hK K
        refine wpAnyH_all (rs := [5]) (by kernel_rfl) (by simp) (fun i hi => ?_)
        simp only [List.mem_cons, List.not_mem_nil, or_false] at hi
        subst hi
        refine wpOp_step (o := _) rfl (fun K hK => ?_)
        go_simp
        refine hK _ _ ⟨((hS.alloc _).alloc _).alloc _, ?_⟩
        clear hK K
        rw [← hW3]
        refine wpAnyH_all (rs := [6]) (by kernel_rfl) (by simp) (fun i hi => ?_)
        simp only [List.mem_cons, List.not_mem_nil, or_false] at hi
        subst hi
        refine wpOp_step (o := _) rfl (fun K hK => ?_)
        rw [if_pos (by rfl)]
        refine wp_store_op 34 _ _ rfl wd.heap.size _ _ (hC exH (.slice none 0 0) (.slice none 0 0)) rfl rfl (info_hdr' _ _ _) Z0.out (by simp [hC]) (one_hC _ rfl rfl) ?_
        intro v6 c6 p6
        have s6 : Only [] w11 v6 := S3.out.trans2 p6 (fun y hy => .inr (by have := NN.out; simp at hy; omega))
        refine hK _ _ ⟨s6, ?_⟩
        clear hK K
        (try simp only [Act.put, List.setIfInBounds_toArray, List.set_cons_zero, List.set_cons_succ])
        refine wpAnyH_all (rs := [7]) (by kernel_rfl) (by simp) (fun i hi => ?_)
        simp only [List.mem_cons, List.not_mem_nil, or_false] at hi
        subst hi
        refine wpOp_step (o := _) rfl (fun K hK => ?_)
        rw [if_pos (by rfl)]
        refine wp_store_op 34 _ _ rfl (wd.heap.size + 1) _ _ (hC exH (.slice none 0 0) (.slice none 0 0)) rfl rfl (info_hdr' _ _ _) (Z1.out.only p6 (by simp <;> omega)) (by simp [hC]) (one_hC _ rfl rfl) ?_
        intro v7 c7 p7
        have s7 : Only [] w11 v7 := s6.trans2 p7 (fun y hy => .inr (by have := NN.out; simp at hy; omega))
        refine hK _ _ ⟨s7, ?_⟩
        clear hK K
        (try simp only [Act.put, List.setIfInBounds_toArray, List.set_cons_zero, List.set_cons_succ])
        refine wpAnyH_all (rs := [8]) (by kernel_rfl) (by simp) (fun i hi => ?_)
        simp only [List.mem_cons, List.not_mem_nil, or_false] at hi
        subst hi
        refine wpOp_step (o := _) rfl (fun K hK => ?_)
        rw [if_pos (by rfl)]
        refine wp_store_op 34 _ _ rfl (wd.heap.size + 1 + 1) _ _ (hC exH (.slice none 0 0) (.slice none 0 0)) rfl rfl (info_hdr' _ _ _) ((Z2.out.only p6 (by simp <;> omega)).only p7 (by simp <;> omega)) (by simp [hC]) (one_hC _ rfl rfl) ?_
        intro v8 c8 p8
        have s8 : Only [] w11 v8 := s7.trans2 p8 (fun y hy => .inr (by have := NN.out; simp at hy; omega))
        refine hK _ _ ⟨s8, ?_⟩
        clear hK K
        (try simp only [Act.put, List.setIfInBounds_toArray, List.set_cons_zero, List.set_cons_succ])
        refine wpAnyH_done (by kernel_rfl) ?_ _
        go_wp2_with fail
        go_meet
        exact ⟨_, _, _, rfl, rfl, rfl, (c6.only p7 (by simp <;> omega)).only p8 (by simp <;> omega), c7.only p8 (by simp <;> omega), c8, by have := NN.out; omega, by have := NN.out; omega, by have := NN.out; omega, by omega, by omega, by omega, s8⟩
      · skip
        refine wpOp_step (o := _) rfl (fun K hK => ?_)
        go_simp
        refine hK _ _ ⟨(hS.alloc _).alloc _, ?_⟩
        clear hK K
        refine wpAnyH_all (rs := [4]) (by kernel_rfl) (by simp) (fun i hi => ?_)
        simp only [List.mem_cons, List.not_mem_nil, or_false] at hi
        subst hi
        refine wpOp_step (o := _) rfl (fun K hK => ?_)
        go_simp
        refine hK _ _ ⟨((hS.alloc _).alloc _).alloc _, ?_⟩
        clear hK K
        rw [← hW3]
        refine wpAnyH_all (rs := [6]) (by kernel_rfl) (by simp) (fun i hi => ?_)
        simp only [List.mem_cons, List.not_mem_nil, or_false] at hi
        subst hi
        refine wpOp_step (o := _) rfl (fun K hK => ?_)
        rw [if_pos (by rfl)]
        refine wp_store_op 34 _ _ rfl wd.heap.size _ _ (hC exH (.slice none 0 0) (.slice none 0 0)) rfl rfl (info_hdr' _ _ _) Z0.out (by simp [hC]) (one_hC _ rfl rfl) ?_
        intro v6 c6 p6
        have s6 : Only [] w11 v6 := S3.out.trans2 p6 (fun y hy => .inr (by have := NN.out; simp at hy; omega))
        refine hK _ _ ⟨s6, ?_⟩
        clear hK K
        (try simp only [Act.put, List.setIfInBounds_toArray, List.set_cons_zero, List.set_cons_succ])
        refine wpAnyH_all (rs := [7]) (by kernel_rfl) (by simp) (fun i hi => ?_)
        simp only [List.mem_cons, List.not_mem_nil, or_false] at hi
        subst hi
        refine wpOp_step (o := _) rfl (fun K hK => ?_)
        rw [if_pos (by rfl)]
        refine wp_store_op 34 _ _ rfl (wd.heap.size + 1 + 1) _ _ (hC exH (.slice none 0 0) (.slice none 0 0)) rfl rfl (info_hdr' _ _ _) (Z2.out.only p6 (by simp <;> omega)) (by simp [hC]) (one_hC _ rfl rfl) ?_
        intro v7 c7 p7
        have s7 : Only [] w11 v7 := s6.trans2 p7 (fun y hy => .inr (by have := NN.out; simp at hy; omega))
        refine hK _ _ ⟨s7, ?_⟩
        clear hK K
        (try simp only [Act.put, List.setIfInBounds_toArray, List.set_cons_zero, List.set_cons_succ])
        refine wpAnyH_all (rs := [8]) (by kernel_rfl) (by simp) (fun i hi => ?_)
        simp only [List.mem_cons, List.not_mem_nil, or_false] at hi
        subst hi
        refine wpOp_step (o := _) rfl (fun K hK => ?_)
        rw [if_pos (by rfl)]
        refine wp_store_op 34 _ _ rfl (wd.heap.size + 1) _ _ (hC exH (.slice none 0 0) (.slice none 0 0)) rfl rfl (info_hdr' _ _ _) ((Z1.out.only p6 (by simp <;> omega)).only p7 (by simp <;> omega)) (by simp [hC]) (one_hC _ rfl rfl) ?_
        intro v8 c8 p8
        have s8 : Only [] w11 v8 := s7.trans2 p8 (fun y hy => .inr (by have := NN.out; simp at hy; omega))
        refine hK _ _ ⟨s8, ?_⟩
        clear hK K
        (try simp only [Act.put, List.setIfInBounds_toArray, List.set_cons_zero, List.set_cons_succ])
        refine wpAnyH_done (by kernel_rfl) ?_ _
        go_wp2_with fail
        go_meet
        exact ⟨_, _, _, rfl, rfl, rfl, (c6.only p7 (by simp <;> omega)).only p8 (by simp <;> omega), c7.only p8 (by simp <;> omega), c8, by have := NN.out; omega, by have := NN.out; omega, by have := NN.out; omega, by omega, by omega, by omega, s8⟩
    · skip
      refine wpOp_step (o := _) rfl (fun K hK => ?_)
      go_simp
      refine hK _ _ ⟨hS.alloc _, ?_⟩
      clear hK K
      refine wpAnyH_all (rs := [3, 5]) (by kernel_rfl) (by simp) (fun i hi => ?_)
      simp only [List.mem_cons, List.not_mem_nil, or_false] at hi
      rcases hi with rfl | rfl
      · skip
        refine wpOp_step (o := _) rfl (fun K hK => ?_)
        go_simp
        refine hK _ _ ⟨(hS.alloc _).alloc _, ?_⟩
        clear hK K
        refine wpAnyH_all (rs := [5]) (by kernel_rfl) (by simp) (fun i hi => ?_)
        simp only [List.mem_cons, List.not_mem_nil, or_false] at hi
        subst hi
        refine wpOp_step (o := _) rfl (fun K hK => ?_)
        go_simp
        refine hK _ _ ⟨((hS.alloc _).alloc _).alloc _, ?_⟩
        clear hK K
        rw [← hW3]
        refine wpAnyH_all (rs := [6]) (by kernel_rfl) (by simp) (fun i hi => ?_)
        simp only [List.mem_cons, List.not_mem_nil, or_false] at hi
        subst hi
        refine wpOp_step (o := _) rfl (fun K hK => ?_)
        rw [if_pos (by rfl)]
        refine wp_store_op 34 _ _ rfl (wd.heap.size + 1) _ _ (hC exH (.slice none 0 0) (.slice none 0 0)) rfl rfl (info_hdr' _ _ _) Z1.out (by simp [hC]) (one_hC _ rfl rfl) ?_
        intro v6 c6 p6
        have s6 : Only [] w11 v6 := S3.out.trans2 p6 (fun y hy => .inr (by have := NN.out; simp at hy; omega))
        refine hK _ _ ⟨s6, ?_⟩
        clear hK K
        (try simp only [Act.put, List.setIfInBounds_toArray, List.set_cons_zero, List.set_cons_succ])
        refine wpAnyH_all (rs := [7]) (by kernel_rfl) (by simp) (fun i hi => ?_)
        simp only [List.mem_cons, List.not_mem_nil, or_false] at hi
        subst hi
        refine wpOp_step (o := _) rfl (fun K hK => ?_)
        rw [if_pos (by rfl)]
        refine wp_store_op 34 _ _ rfl wd.heap.size _ _ (hC exH (.slice none 0 0) (.slice none 0 0)) rfl rfl (info_hdr' _ _ _) (Z0.out.only p6 (by simp <;> omega)) (by simp [hC]) (one_hC _ rfl rfl) ?_
        intro v7 c7 p7
        have s7 : Only [] w11 v7 := s6.trans2 p7 (fun y hy => .inr (by have := NN.out; simp at hy; omega))
        refine hK _ _ ⟨s7, ?_⟩
        clear hK K
        (try simp only [Act.put, List.setIfInBounds_toArray, List.set_cons_zero, List.set_cons_succ])
        refine wpAnyH_all (rs := [8]) (by kernel_rfl) (by simp) (fun i hi => ?_)
        simp only [List.mem_cons, List.not_mem_nil, or_false] at hi
        subst hi
        refine wpOp_step (o := _) rfl (fun K hK => ?_)
        rw [if_pos (by rfl)]
        refine wp_store_op 34 _ _ rfl (wd.heap.size + 1 + 1) _ _ (hC exH (.slice none 0 0) (.slice none 0 0)) rfl rfl (info_hdr' _ _ _) ((Z2.out.only p6 (by simp <;> omega)).only p7 (by simp <;> omega)) (by simp [hC]) (one_hC _ rfl rfl) ?_
        intro v8 c8 p8
        have s8 : Only [] w11 v8 := s7.trans2 p8 (fun y hy => .inr (by have := NN.out; simp at hy; omega))
        refine hK _ _ ⟨s8, ?_⟩
        clear hK K
        (try simp only [Act.put, List.setIfInBounds_toArray, List.set_cons_zero, List.set_cons_succ])
        refine wpAnyH_done (by kernel_rfl) ?_ _
        go_wp2_with fail
        go_meet
        exact ⟨_, _, _, rfl, rfl, rfl, (c6.only p7 (by simp <;> omega)).only p8 (by simp <;> omega), c7.only p8 (by simp <;> omega), c8, by have := NN.out; omega, by have := NN.out; omega, by have := NN.out; omega, by omega, by omega, by omega, s8⟩
      · skip
        refine wpOp_step (o := _) rfl (fun K hK => ?_)
        go_simp
        refine hK _ _ ⟨(hS.alloc _).alloc _, ?_⟩
        clear hK K
        refine wpAnyH_all (rs := [3]) (by kernel_rfl) (by simp) (fun i hi => ?_)
        simp only [List.mem_cons, List.not_mem_nil, or_false] at hi
        subst hi
        refine wpOp_step (o := _) rfl (fun K hK => ?_)
        go_simp
        refine hK _ _ ⟨((hS.alloc _).alloc _).alloc _, ?_⟩
        clear hK K
        rw [← hW3]
        refine wpAnyH_all (rs := [6]) (by kernel_rfl) (by simp) (fun i hi => ?_)
        simp only [List.mem_cons, List.not_mem_nil, or_false] at hi
        subst hi
        refine wpOp_step (o := _) rfl (fun K hK => ?_)
        rw [if_pos (by rfl)]
        refine wp_store_op 34 _ _ rfl (wd.heap.size + 1 + 1) _ _ (hC exH (.slice none 0 0) (.slice none 0 0)) rfl rfl (info_hdr' _ _ _) Z2.out (by simp [hC]) (one_hC _ rfl rfl) ?_
        intro v6 c6 p6
        have s6 : Only [] w11 v6 := S3.out.trans2 p6 (fun y hy => .inr (by have := NN.out; simp at hy; omega))
        refine hK _ _ ⟨s6, ?_⟩
        clear hK K
        (try simp only [Act.put, List.setIfInBounds_toArray, List.set_cons_zero, List.set_cons_succ])
        refine wpAnyH_all (rs := [7]) (by kernel_rfl) (by simp) (fun i hi => ?_)
        simp only [List.mem_cons, List.not_mem_nil, or_false] at hi
        subst hi
        refine wpOp_step (o := _) rfl (fun K hK => ?_)
        rw [if_pos (by rfl)]
        refine wp_store_op 34 _ _ rfl wd.heap.size _ _ (hC exH (.slice none 0 0) (.slice none 0 0)) rfl rfl (info_hdr' _ _ _) (Z0.out.only p6 (by simp <;> omega)) (by simp [hC]) (one_hC _ rfl rfl) ?_
        intro v7 c7 p7
        have s7 : Only [] w11 v7 := s6.trans2 p7 (fun y hy => .inr (by have := NN.out; simp at hy; omega))
        refine hK _ _ ⟨s7, ?_⟩
        clear hK K
        (try simp only [Act.put, List.setIfInBounds_toArray, List.set_cons_zero, List.set_cons_succ])
        refine wpAnyH_all (rs := [8]) (by kernel_rfl) (by simp) (fun i hi => ?_)
        simp only [List.mem_cons, List.not_mem_nil, or_false] at hi
        subst hi
        refine wpOp_step (o := _) rfl (fun K hK => ?_)
        rw [if_pos (by rfl)]
        refine wp_store_op 34 _ _ rfl (wd.heap.size + 1) _ _ (hC exH (.slice none 0 0) (.slice none 0 0)) rfl rfl (info_hdr' _ _ _) ((Z1.out.only p6 (by simp <;> omega)).only p7 (by simp <;> omega)) (by simp [hC]) (one_hC _ rfl rfl) ?_
        intro v8 c8 p8
        have s8 : Only [] w11 v8 := s7.trans2 p8 (fun y hy => .inr (by have := NN.out; simp at hy; omega))
        refine hK _ _ ⟨s8, ?_⟩
        clear hK K
        (try simp only [Act.put, List.setIfInBounds_toArray, List.set_cons_zero, List.set_cons_succ])
        refine wpAnyH_done (by kernel_rfl) ?_ _
        go_wp2_with fail
        go_meet
        exact ⟨_, _, _, rfl, rfl, rfl, (c6.only p7 (by simp <;> omega)).only p8 (by simp <;> omega), c7.only p8 (by simp <;> omega), c8, by have := NN.out; omega, by have := NN.out; omega, by have := NN.out; omega, by omega, by omega, by omega, s8⟩
    · skip
      refine wpOp_step (o := _) rfl (fun K hK => ?_)
      go_simp
      refine hK _ _ ⟨hS.alloc _, ?_⟩
      clear hK K
      refine wpAnyH_all (rs := [3, 4]) (by kernel_rfl) (by simp) (fun i hi => ?_)
      simp only [List.mem_cons, List.not_mem_nil, or_false] at hi
      rcases hi with rfl | rfl
      · skip
        refine wpOp_step (o := _) rfl (fun K hK => ?_)
        go_simp
        refine hK _ _ ⟨(hS.alloc _).alloc _, ?_⟩
        clear hK K
        refine wpAnyH_all (rs := [4]) (by kernel_rfl) (by simp) (fun i hi => ?_)
        simp only [List.mem_cons, List.not_mem_nil, or_false] at hi
        subst hi
        refine wpOp_step (o := _) rfl (fun K hK => ?_)
        go_simp
        refine hK _ _ ⟨((hS.alloc _).alloc _).alloc _, ?_⟩
        clear hK K
        rw [← hW3]
        refine wpAnyH_all (rs := [6]) (by kernel_rfl) (by simp) (fun i hi => ?_)
        simp only [List.mem_cons, List.not_mem_nil, or_false] at hi
        subst hi
        refine wpOp_step (o := _) rfl (fun K hK => ?_)
        rw [if_pos (by rfl)]
        refine wp_store_op 34 _ _ rfl (wd.heap.size + 1) _ _ (hC exH (.slice none 0 0) (.slice none 0 0)) rfl rfl (info_hdr' _ _ _) Z1.out (by simp [hC]) (one_hC _ rfl rfl) ?_
        intro v6 c6 p6
        have s6 : Only [] w11 v6 := S3.out.trans2 p6 (fun y hy => .inr (by have := NN.out; simp at hy; omega))
        refine hK _ _ ⟨s6, ?_⟩
        clear hK K
        (try simp only [Act.put, List.setIfInBounds_toArray, List.set_cons_zero, List.set_cons_succ])
        refine wpAnyH_all (rs := [7]) (by kernel_rfl) (by simp) (fun i hi => ?_)
        simp only [List.mem_cons, List.not_mem_nil, or_false] at hi
        subst hi
        refine wpOp_step (o := _) rfl (fun K hK => ?_)
        rw [if_pos (by rfl)]
        refine wp_store_op 34 _ _ rfl (wd.heap.size + 1 + 1) _ _ (hC exH (.slice none 0 0) (.slice none 0 0)) rfl rfl (info_hdr' _ _ _) (Z2.out.only p6 (by simp <;> omega)) (by simp [hC]) (one_hC _ rfl rfl) ?_
        intro v7 c7 p7
        have s7 : Only [] w11 v7 := s6.trans2 p7 (fun y hy => .inr (by have := NN.out; simp at hy; omega))
        refine hK _ _ ⟨s7, ?_⟩
        clear hK K
        (try simp only [Act.put, List.setIfInBounds_toArray, List.set_cons_zero, List.set_cons_succ])
        refine wpAnyH_all (rs := [8]) (by kernel_rfl) (by simp) (fun i hi => ?_)
        simp only [List.mem_cons, List.not_mem_nil, or_false] at hi
        subst hi
        refine wpOp_step (o := _) rfl (fun K hK => ?_)
        rw [if_pos (by rfl)]
        refine wp_store_op 34 _ _ rfl wd.heap.size _ _ (hC exH (.slice none 0 0) (.slice none 0 0)) rfl rfl (info_hdr' _ _ _) ((Z0.out.only p6 (by simp <;> omega)).only p7 (by simp <;> omega)) (by simp [hC]) (one_hC _ rfl rfl) ?_
        intro v8 c8 p8
        have s8 : Only [] w11 v8 := s7.trans2 p8 (fun y hy => .inr (by have := NN.out; simp at hy; omega))
        refine hK _ _ ⟨s8, ?_⟩
        clear hK K
        (try simp only [Act.put, List.setIfInBounds_toArray, List.set_cons_zero, List.set_cons_succ])
        refine wpAnyH_done (by kernel_rfl) ?_ _
        go_wp2_with fail
        go_meet
        exact ⟨_, _, _, rfl, rfl, rfl, (c6.only p7 (by simp <;> omega)).only p8 (by simp <;> omega), c7.only p8 (by simp <;> omega), c8, by have := NN.out; omega, by have := NN.out; omega, by have := NN.out; omega, by omega, by omega, by omega, s8⟩
      · skip
        refine wpOp_step (o := _) rfl (fun K hK => ?_)
        go_simp
        refine hK _ _ ⟨(hS.alloc _).alloc _, ?_⟩
        clear hK K
        refine wpAnyH_all (rs := [3]) (by kernel_rfl) (by simp) (fun i hi => ?_)
        simp only [List.mem_cons, List.not_mem_nil, or_false] at hi
        subst hi
        refine wpOp_step (o := _) rfl (fun K hK => ?_)
        go_simp
        refine hK _ _ ⟨((hS.alloc _).alloc _).alloc _, ?_⟩
        clear hK K
        rw [← hW3]
        refine wpAnyH_all (rs := [6]) (by kernel_rfl) (by simp) (fun i hi => ?_)
        simp only [List.mem_cons, List.not_mem_nil, or_false] at hi
        subst hi
        refine wpOp_step (o := _) rfl (fun K hK => ?_)
        rw [if_pos (by rfl)]
        refine wp_store_op 34 _ _ rfl (wd.heap.size + 1 + 1) _ _ (hC exH (.slice none 0 0) (.slice none 0 0)) rfl rfl (info_hdr' _ _ _) Z2.out (by simp [hC]) (one_hC _ rfl rfl) ?_
        intro v6 c6 p6
        have s6 : Only [] w11 v6 := S3.out.trans2 p6 (fun y hy => .inr (by have := NN.out; simp at hy; omega))
        refine hK _ _ ⟨s6, ?_⟩
        clear hK K
        (try simp only [Act.put, List.setIfInBounds_toArray, List.set_cons_zero, List.set_cons_succ])
        refine wpAnyH_all (rs := [7]) (by kernel_rfl) (by simp) (fun i hi => ?_)
        simp only [List.mem_cons, List.not_mem_nil, or_false] at hi
        subst hi
        refine wpOp_step (o := _) rfl (fun K hK => ?_)
        rw [if_pos (by rfl)]
        refine wp_store_op 34 _ _ rfl (wd.heap.size + 1) _ _ (hC exH (.slice none 0 0) (.slice none 0 0)) rfl rfl (info_hdr' _ _ _) (Z1.out.only p6 (by simp <;> omega)) (by simp [hC]) (one_hC _ rfl rfl) ?_
        intro v7 c7 p7
        have s7 : Only [] w11 v7 := s6.trans2 p7 (fun y hy => .inr (by have := NN.out; simp at hy; omega))
        refine hK _ _ ⟨s7, ?_⟩
        clear hK K
        (try simp only [Act.put, List.setIfInBounds_toArray, List.set_cons_zero, List.set_cons_succ])
        refine wpAnyH_all (rs := [8]) (by kernel_rfl) (by simp) (fun i hi => ?_)
        simp only [List.mem_cons, List.not_mem_nil, or_false] at hi
        subst hi
        refine wpOp_step (o := _) rfl (fun K hK => ?_)
        rw [if_pos (by rfl)]
        refine wp_store_op 34 _ _ rfl wd.heap.size _ _ (hC exH (.slice none 0 0) (.slice none 0 0)) rfl rfl (info_hdr' _ _ _) ((Z0.out.only p6 (by simp <;> omega)).only p7 (by simp <;> omega)) (by simp [hC]) (one_hC _ rfl rfl) ?_
        intro v8 c8 p8
        have s8 : Only [] w11 v8 := s7.trans2 p8 (fun y hy => .inr (by have := NN.out; simp at hy; omega))
        refine hK _ _ ⟨s8, ?_⟩
        clear hK K
        (try simp only [Act.put, List.setIfInBounds_toArray, List.set_cons_zero, List.set_cons_succ])
        refine wpAnyH_done (by kernel_rfl) ?_ _
        go_wp2_with fail
        go_meet
        exact ⟨_, _, _, rfl, rfl, rfl, (c6.only p7 (by simp <;> omega)).only p8 (by simp <;> omega), c7.only p8 (by simp <;> omega), c8, by have := NN.out; omega, by have := NN.out; omega, by have := NN.out; omega, by omega, by omega, by omega, s8⟩
  case rest =>
  obtain ⟨b6, b7, b8, rfl, rfl, rfl, c6, c7, c8, l6, l7, l8, n67, n68, n78, o12⟩ := hcut
  have o13 : Only [] w8 wc := o11.trans o12
  have x0 := c6.cell (i := 0) (v := .int .i64 0) rfl
  have y0 := c6.frozen 0
  have x7 := c7.cell (i := 7) (v := .bool false) rfl
  have y7 := c7.frozen 7
  have x16 := c8.cell (i := 16) (v := .int .i64 0) rfl
  have y16 := c8.frozen 16
  have g6 : ∀ (w : World) v, Only [b6] w (w.setCell ⟨b6, 0, none⟩ v) := fun w v => (Only.refl _ _).setCell (.inl (by simp)) _
  have g7 : ∀ (w : World) v, Only [b7] w (w.setCell ⟨b7, 7, none⟩ v) := fun w v => (Only.refl _ _).setCell (.inl (by simp)) _
  have g8 : ∀ (w : World) v, Only [b8] w (w.setCell ⟨b8, 16, none⟩ v) := fun w v => (Only.refl _ _).setCell (.inl (by simp)) _
  obtain ⟨W4, hW4⟩ : ∃ W4, W4 = ((wc.setCell ⟨b6, 0, none⟩ (.int .i64 1)).setCell ⟨b7, 7, none⟩ (.bool true)).setCell ⟨b8, 16, none⟩ (.int .i64 (-27)) := ⟨_, rfl⟩
  have d6 : Blk W4 b6 34 (hC { exH with fi := 1 } (.slice none 0 0) (.slice none 0 0)).toArray := hW4 ▸ ((c6.set 0 (.int .i64 1)).only (g7 _ _) (by simp <;> omega)).only (g8 _ _) (by simp <;> omega)
  have d7 : Blk W4 b7 34 (hC { exH with over := true } (.slice none 0 0) (.slice none 0 0)).toArray := hW4 ▸ ((c7.only (g6 _ _) (by simp <;> omega)).set 7 (.bool true)).only (g8 _ _) (by simp <;> omega)
  have d8 : Blk W4 b8 34 (hC { exH with qp := -27 } (.slice none 0 0) (.slice none 0 0)).toArray := hW4 ▸ ((c8.only (g6 _ _) (by simp <;> omega)).only (g7 _ _) (by simp <;> omega)).set 16 (.int .i64 (-27))
  have o14 : Only [] w8 W4 := hW4 ▸ ((o13.trans2 (g6 _ _) (fun y hy => .inr (by have := o11.size; simp at hy; omega))).trans2 (g7 _ _) (fun y hy => .inr (by have := o11.size; simp at hy; omega))).trans2 (g8 _ _) (fun y hy => .inr (by have := o11.size; simp at hy; omega))
  clear g6 g7 g8 o13 o12 c6 c7 c8
  go_upto_region 9 with (fail)
  rw [← hW4]
  clear hW4 x0 y0 x7 y7 x16 y16
  have V4 := hid (V8.out.only0 o14)
  have OZ := hid (O8.out.trans o14)
  have DH := hid (fun w' (o : Only [] W4 w') => (BH8.out.only o14 (by simp)).only o (by simp))
  have DZ := hid (fun w' (o : Only [] W4 w') => (BZ8.out.only o14 (by simp)).only o (by simp))
  have DP := hid (fun w' (o : Only [] W4 w') => (BP8.out.only o14 (by simp)).only o (by simp))
  have DS := hid (fun w' (o : Only [] W4 w') => (BS8.out.only o14 (by simp)).only o (by simp))
  have D6 := hid (fun w' (o : Only [] W4 w') => d6.only o (by simp))
  have D7 := hid (fun w' (o : Only [] W4 w') => d7.only o (by simp))
  have D8 := hid (fun w' (o : Only [] W4 w') => d8.only o (by simp))
  have EC := hid ex_checks
  have K1 := hid (fun w' (o : Only [] W4 w') => by have := hcheck_any h0 ⟨1, true, plainP, plainS⟩ (.slice none 0 0) (.slice none 0 0) w' (V4.out.only0 o) (holdsM_none _) (holdsM_none _) oksM_nil oksM_nil (by simp); rw [EC.out.1] at this; exact this)
  have K2 := hid (fun w' (o : Only [] W4 w') => by have := hcheck_any { exH with fi := 1 } ⟨1, true, plainP, plainS⟩ (.slice none 0 0) (.slice none 0 0) w' (V4.out.only0 o) (holdsM_none _) (holdsM_none _) oksM_nil oksM_nil (by simp); rw [EC.out.2.1] at this; exact this)
  have K3 := hid (fun w' (o : Only [] W4 w') => by have := hcheck_any { exH with over := true } ⟨1, true, plainP, plainS⟩ (.slice none 0 0) (.slice none 0 0) w' (V4.out.only0 o) (holdsM_none _) (holdsM_none _) oksM_nil oksM_nil (by simp); rw [EC.out.2.2.1] at this; exact this)
  have K4 := hid (fun w' (o : Only [] W4 w') => by have := hcheck_any exH ⟨0, true, plainP, plainS⟩ (.slice none 0 0) (.slice none 0 0) w' (V4.out.only0 o) (holdsM_none _) (holdsM_none _) oksM_nil oksM_nil (by simp); rw [EC.out.2.2.2.1] at this; exact this)
  have K5 := hid (fun w' (o : Only [] W4 w') => by have := hcheck_any { exH with qp := -27 } ⟨1, true, plainP, plainS⟩ (.slice none 0 0) (.slice none 0 0) w' (V4.out.only0 o) (holdsM_none _) (holdsM_none _) oksM_nil oksM_nil (by simp); rw [EC.out.2.2.2.2] at this; exact this)
  have R1 := hid (fun w' => show Calls Tryz.prog 22 #[hV exH (.slice none 0 0) (.slice none 0 0), pV plainP] w' fun e w'' => e = .returned (.int .i64 0) ∧ Only [] w' w'' from refs_any exH (.slice none 0 0) (.slice none 0 0) plainP w' rfl rfl)
  have R2 := hid (fun w' => show Calls Tryz.prog 22 #[hV h0 (.slice none 0 0) (.slice none 0 0), pV plainP] w' fun e w'' => e = .returned (.int .i64 1) ∧ Only [] w' w'' from refs_any h0 (.slice none 0 0) (.slice none 0 0) plainP w' rfl rfl)
  have Q1 := hid (fun w' => show Calls Tryz.prog 24 #[hV exH (.slice none 0 0) (.slice none 0 0), pV plainP] w' fun e w'' => e = .returned (.int .i64 26) ∧ Only [] w' w'' from by have := qp_any exH (.slice none 0 0) (.slice none 0 0) plainP w' rfl rfl; rwa [show wrap64 (wrap64 (26 + plainP.qp) + exH.qp) = 26 from by decide +kernel] at this)
  clear d6 d7 d8 o14 o11 BH8 BZ8 BP8 BS8 V8 O8 EC LD n67 n68 n78 l6 l7 l8
  have q0 : Only [] W4 W4 := Only.refl _ _
  go_wp2_with (first
    | (refine load_blk rfl 34 _ rfl (X + 1) _ [.int .i64 0, .bool false, .bool false, .int .i64 0, .int .i64 0, .int .i64 0, .int .i64 0, .bool false, .int .i64 0, .bool false, .slice none 0 0, .bool false, .bool false, .bool false, .slice none 0 0, .int .i64 0, .int .i64 0, .int .i64 0, .int .i64 0, .int .i64 0] rfl (DZ.out _ q0) (hl_hdr _ h0 (.slice none 0 0) (.slice none 0 0)) ?_)
    | (refine load_blk rfl 24 _ rfl A _ [.int .i64 0, .int .i64 0, .bool false, .int .i64 1, .int .i64 1, .int .i64 0, .int .i64 0, .int .i64 0, .bool false, .bool false] rfl (DP.out _ q0) (hl_pps _ plainP) ?_)
    | (refine load_blk rfl 27 _ rfl (A + 1) _ [.int .u8 77, .int .u8 0, .int .u8 10, .int .i64 0, .int .i64 4, .int .i64 4, .int .i64 1, .int .i64 1, .int .i64 1] rfl (DS.out _ q0) (hl_sps _ plainS) ?_))
  refine (K1.out _ q0).mono ?_
  rintro e v0 ⟨rfl, r0⟩
  have q1 : Only [] W4 v0 := q0.trans r0
  clear r0 q0
  go_wp2_with (first
    | (go_big_want; refine wp_load_op 34 _ rfl b6 _ [.int .i64 1, .bool true, .bool false, .int .i64 0, .int .i64 0, .int .i64 0, .int .i64 0, .bool false, .int .i64 0, .bool false, .slice none 0 0, .bool false, .bool false, .bool false, .slice none 0 0, .int .i64 0, .int .i64 0, .int .i64 0, .int .i64 0, .int .i64 0] rfl (D6.out _ q1) (hl_hdr _ { exH with fi := 1 } (.slice none 0 0) (.slice none 0 0)) ?_; simp only [Act.put, List.setIfInBounds_toArray, List.set_cons_zero, List.set_cons_succ])
    | (go_big_want; refine wp_load_op 24 _ rfl A _ [.int .i64 0, .int .i64 0, .bool false, .int .i64 1, .int .i64 1, .int .i64 0, .int .i64 0, .int .i64 0, .bool false, .bool false] rfl (DP.out _ q1) (hl_pps _ plainP) ?_; simp only [Act.put, List.setIfInBounds_toArray, List.set_cons_zero, List.set_cons_succ])
    | (go_big_want; refine wp_load_op 27 _ rfl (A + 1) _ [.int .u8 77, .int .u8 0, .int .u8 10, .int .i64 0, .int .i64 4, .int .i64 4, .int .i64 1, .int .i64 1, .int .i64 1] rfl (DS.out _ q1) (hl_sps _ plainS) ?_; simp only [Act.put, List.setIfInBounds_toArray, List.set_cons_zero, List.set_cons_succ]))
  refine (K2.out _ q1).mono ?_
  rintro e v1 ⟨rfl, r1⟩
  have q2 : Only [] W4 v1 := q1.trans r1
  clear r1 q1
  go_wp2_with (first
    | (go_big_want; refine wp_load_op 34 _ rfl b7 _ [.int .i64 0, .bool true, .bool false, .int .i64 0, .int .i64 0, .int .i64 0, .int .i64 0, .bool true, .int .i64 0, .bool false, .slice none 0 0, .bool false, .bool false, .bool false, .slice none 0 0, .int .i64 0, .int .i64 0, .int .i64 0, .int .i64 0, .int .i64 0] rfl (D7.out _ q2) (hl_hdr _ { exH with over := true } (.slice none 0 0) (.slice none 0 0)) ?_; simp only [Act.put, List.setIfInBounds_toArray, List.set_cons_zero, List.set_cons_succ])
    | (go_big_want; refine wp_load_op 24 _ rfl A _ [.int .i64 0, .int .i64 0, .bool false, .int .i64 1, .int .i64 1, .int .i64 0, .int .i64 0, .int .i64 0, .bool false, .bool false] rfl (DP.out _ q2) (hl_pps _ plainP) ?_; simp only [Act.put, List.setIfInBounds_toArray, List.set_cons_zero, List.set_cons_succ])
    | (go_big_want; refine wp_load_op 27 _ rfl (A + 1) _ [.int .u8 77, .int .u8 0, .int .u8 10, .int .i64 0, .int .i64 4, .int .i64 4, .int .i64 1, .int .i64 1, .int .i64 1] rfl (DS.out _ q2) (hl_sps _ plainS) ?_; simp only [Act.put, List.setIfInBounds_toArray, List.set_cons_zero, List.set_cons_succ]))
  refine (K3.out _ q2).mono ?_
  rintro e v2 ⟨rfl, r2⟩
  have q3 : Only [] W4 v2 := q2.trans r2
  clear r2 q2
  go_wp2_with (first
    | (go_big_want; refine wp_load_op 34 _ rfl X _ [.int .i64 0, .bool true, .bool false, .int .i64 0, .int .i64 0, .int .i64 0, .int .i64 0, .bool false, .int .i64 0, .bool false, .slice none 0 0, .bool false, .bool false, .bool false, .slice none 0 0, .int .i64 0, .int .i64 0, .int .i64 0, .int .i64 0, .int .i64 0] rfl (DH.out _ q3) (hl_hdr _ exH (.slice none 0 0) (.slice none 0 0)) ?_; simp only [Act.put, List.setIfInBounds_toArray, List.set_cons_zero, List.set_cons_succ])
    | (go_big_want; refine wp_load_op 24 _ rfl A _ [.int .i64 0, .int .i64 0, .bool false, .int .i64 1, .int .i64 1, .int .i64 0, .int .i64 0, .int .i64 0, .bool false, .bool false] rfl (DP.out _ q3) (hl_pps _ plainP) ?_; simp only [Act.put, List.setIfInBounds_toArray, List.set_cons_zero, List.set_cons_succ])
    | (go_big_want; refine wp_load_op 27 _ rfl (A + 1) _ [.int .u8 77, .int .u8 0, .int .u8 10, .int .i64 0, .int .i64 4, .int .i64 4, .int .i64 1, .int .i64 1, .int .i64 1] rfl (DS.out _ q3) (hl_sps _ plainS) ?_; simp only [Act.put, List.setIfInBounds_toArray, List.set_cons_zero, List.set_cons_succ]))
  refine (K4.out _ q3).mono ?_
  rintro e v3 ⟨rfl, r3⟩
  have q4 : Only [] W4 v3 := q3.trans r3
  clear r3 q3
  go_wp2_with (first
    | (go_big_want; refine wp_load_op 34 _ rfl b8 _ [.int .i64 0, .bool true, .bool false, .int .i64 0, .int .i64 0, .int .i64 0, .int .i64 0, .bool false, .int .i64 0, .bool false, .slice none 0 0, .bool false, .bool false, .bool false, .slice none 0 0, .int .i64 0, .int .i64 (-27), .int .i64 0, .int .i64 0, .int .i64 0] rfl (D8.out _ q4) (hl_hdr _ { exH with qp := -27 } (.slice none 0 0) (.slice none 0 0)) ?_; simp only [Act.put, List.setIfInBounds_toArray, List.set_cons_zero, List.set_cons_succ])
    | (go_big_want; refine wp_load_op 24 _ rfl A _ [.int .i64 0, .int .i64 0, .bool false, .int .i64 1, .int .i64 1, .int .i64 0, .int .i64 0, .int .i64 0, .bool false, .bool false] rfl (DP.out _ q4) (hl_pps _ plainP) ?_; simp only [Act.put, List.setIfInBounds_toArray, List.set_cons_zero, List.set_cons_succ])
    | (go_big_want; refine wp_load_op 27 _ rfl (A + 1) _ [.int .u8 77, .int .u8 0, .int .u8 10, .int .i64 0, .int .i64 4, .int .i64 4, .int .i64 1, .int .i64 1, .int .i64 1] rfl (DS.out _ q4) (hl_sps _ plainS) ?_; simp only [Act.put, List.setIfInBounds_toArray, List.set_cons_zero, List.set_cons_succ]))
  refine (K5.out _ q4).mono ?_
  rintro e v4 ⟨rfl, r4⟩
  have q5 : Only [] W4 v4 := q4.trans r4
  clear r4 q4
  go_wp2_with (first
    | (go_big_want; refine wp_load_op 34 _ rfl X _ [.int .i64 0, .bool true, .bool false, .int .i64 0, .int .i64 0, .int .i64 0, .int .i64 0, .bool false, .int .i64 0, .bool false, .slice none 0 0, .bool false, .bool false, .bool false, .slice none 0 0, .int .i64 0, .int .i64 0, .int .i64 0, .int .i64 0, .int .i64 0] rfl (DH.out _ q5) (hl_hdr _ exH (.slice none 0 0) (.slice none 0 0)) ?_; simp only [Act.put, List.setIfInBounds_toArray, List.set_cons_zero, List.set_cons_succ])
    | (go_big_want; refine wp_load_op 24 _ rfl A _ [.int .i64 0, .int .i64 0, .bool false, .int .i64 1, .int .i64 1, .int .i64 0, .int .i64 0, .int .i64 0, .bool false, .bool false] rfl (DP.out _ q5) (hl_pps _ plainP) ?_; simp only [Act.put, List.setIfInBounds_toArray, List.set_cons_zero, List.set_cons_succ])
    | (go_big_want; refine wp_load_op 27 _ rfl (A + 1) _ [.int .u8 77, .int .u8 0, .int .u8 10, .int .i64 0, .int .i64 4, .int .i64 4, .int .i64 1, .int .i64 1, .int .i64 1] rfl (DS.out _ q5) (hl_sps _ plainS) ?_; simp only [Act.put, List.setIfInBounds_toArray, List.set_cons_zero, List.set_cons_succ]))
  refine (R1.out _).mono ?_
  rintro e v5 ⟨rfl, r5⟩
  have q6 : Only [] W4 v5 := q5.trans r5
  clear r5 q5
  go_wp2_with (first
    | (go_big_want; refine wp_load_op 34 _ rfl (X + 1) _ [.int .i64 0, .bool false, .bool false, .int .i64 0, .int .i64 0, .int .i64 0, .int .i64 0, .bool false, .int .i64 0, .bool false, .slice none 0 0, .bool false, .bool false, .bool false, .slice none 0 0, .int .i64 0, .int .i64 0, .int .i64 0, .int .i64 0, .int .i64 0] rfl (DZ.out _ q6) (hl_hdr _ h0 (.slice none 0 0) (.slice none 0 0)) ?_; simp only [Act.put, List.setIfInBounds_toArray, List.set_cons_zero, List.set_cons_succ])
    | (go_big_want; refine wp_load_op 24 _ rfl A _ [.int .i64 0, .int .i64 0, .bool false, .int .i64 1, .int .i64 1, .int .i64 0, .int .i64 0, .int .i64 0, .bool false, .bool false] rfl (DP.out _ q6) (hl_pps _ plainP) ?_; simp only [Act.put, List.setIfInBounds_toArray, List.set_cons_zero, List.set_cons_succ])
    | (go_big_want; refine wp_load_op 27 _ rfl (A + 1) _ [.int .u8 77, .int .u8 0, .int .u8 10, .int .i64 0, .int .i64 4, .int .i64 4, .int .i64 1, .int .i64 1, .int .i64 1] rfl (DS.out _ q6) (hl_sps _ plainS) ?_; simp only [Act.put, List.setIfInBounds_toArray, List.set_cons_zero, List.set_cons_succ]))
  refine (R2.out _).mono ?_
  rintro e v6 ⟨rfl, r6⟩
  have q7 : Only [] W4 v6 := q6.trans r6
  clear r6 q6
  go_wp2_with (first
    | (go_big_want; refine wp_load_op 34 _ rfl X _ [.int .i64 0, .bool true, .bool false, .int .i64 0, .int .i64 0, .int .i64 0, .int .i64 0, .bool false, .int .i64 0, .bool false, .slice none 0 0, .bool false, .bool false, .bool false, .slice none 0 0, .int .i64 0, .int .i64 0, .int .i64 0, .int .i64 0, .int .i64 0] rfl (DH.out _ q7) (hl_hdr _ exH (.slice none 0 0) (.slice none 0 0)) ?_; simp only [Act.put, List.setIfInBounds_toArray, List.set_cons_zero, List.set_cons_succ])
    | (go_big_want; refine wp_load_op 24 _ rfl A _ [.int .i64 0, .int .i64 0, .bool false, .int .i64 1, .int .i64 1, .int .i64 0, .int .i64 0, .int .i64 0, .bool false, .bool false] rfl (DP.out _ q7) (hl_pps _ plainP) ?_; simp only [Act.put, List.setIfInBounds_toArray, List.set_cons_zero, List.set_cons_succ])
    | (go_big_want; refine wp_load_op 27 _ rfl (A + 1) _ [.int .u8 77, .int .u8 0, .int .u8 10, .int .i64 0, .int .i64 4, .int .i64 4, .int .i64 1, .int .i64 1, .int .i64 1] rfl (DS.out _ q7) (hl_sps _ plainS) ?_; simp only [Act.put, List.setIfInBounds_toArray, List.set_cons_zero, List.set_cons_succ]))
  refine (Q1.out _).mono ?_
  rintro e v7 ⟨rfl, r7⟩
  have q8 : Only [] W4 v7 := q7.trans r7
  clear r7 q7
  go_wp2_with fail
  go_ret
  exact ⟨rfl, OZ.out.trans q8⟩
end Go.Proofs.YtjjjfmnhdnajkaaGreatDoor

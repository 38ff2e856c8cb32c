/- HeaderExamples: Read of nil, and the list of ends. -/
/- HeaderExamples: the code's parts; the first two regions of the body. -/
/- HeaderExamples: a slice of twelve headers. -/
/- HeaderExamples: the next two regions of the body. -/
/- HeaderExamples: the fields are set. -/
/- HeaderExamples: lists are set. -/
/- HeaderExamples: the twelve headers, each as such. -/
/- HeaderExamples: the loop over the twelve. -/
import Derived.Test.YtjjjfmnhdnajkaaGreatDoorMg25
import Derived.Test.YtjjjfmnhdnajkaaGreatDoorMg22
import Derived.Test.YtjjjfmnhdnajkaaGreatDoorHlH
import Derived.Test.YtjjjfmnhdnajkaaGreatDoorHlF
import Derived.Test.YtjjjfmnhdnajkaaGreatDoorRow
section
set_option maxRecDepth 20000
namespace Go.Proofs.YtjjjfmnhdnajkaaGreatDoor
open Go.RowKit
set_option linter.unusedVariables false
set_option linter.unusedSimpArgs false

def hn (j : Nat) : Int := [-9223372036854775808, -27, -7, -6, -1, 0, 1, 2, 3, 6, 7, 15, 16, 25, 26, 32, 33, 65535, 65536, 9223372036854775807].getD j 0
theorem hn_le (j : Nat) : -9223372036854775808 ≤ hn j ∧ hn j ≤ 9223372036854775807 := by
  by_cases h : j < 20
  · have : ∀ j : Fin 20, -9223372036854775808 ≤ hn j.1 ∧ hn j.1 ≤ 9223372036854775807 := by decide
    exact this ⟨j, h⟩
  · unfold hn
    rw [List.getD_eq_getElem?_getD, List.getElem?_eq_none (by simp; omega)]
    decide
def hnC : Array Value := #[.int .i64 (-9223372036854775808), .int .i64 (-27), .int .i64 (-7), .int .i64 (-6), .int .i64 (-1), .int .i64 0, .int .i64 1, .int .i64 2, .int .i64 3, .int .i64 6, .int .i64 7, .int .i64 15, .int .i64 16, .int .i64 25, .int .i64 26, .int .i64 32, .int .i64 33, .int .i64 65535, .int .i64 65536, .int .i64 9223372036854775807]
theorem hnC_at (j : Nat) (h : j < 20) : hnC[j]? = some (.int .i64 (hn j)) := by
  obtain rfl | rfl | rfl | rfl | rfl | rfl | rfl | rfl | rfl | rfl | rfl | rfl | rfl | rfl | rfl | rfl | rfl | rfl | rfl | rfl : j = 0 ∨ j = 1 ∨ j = 2 ∨ j = 3 ∨ j = 4 ∨ j = 5 ∨ j = 6 ∨ j = 7 ∨ j = 8 ∨ j = 9 ∨ j = 10 ∨ j = 11 ∨ j = 12 ∨ j = 13 ∨ j = 14 ∨ j = 15 ∨ j = 16 ∨ j = 17 ∨ j = 18 ∨ j = 19 := by omega
  all_goals rfl
def HEnds (w : World) (p : Nat) : Prop := ∀ j, j < 20 → w.cell? ⟨p, j, none⟩ = some (.int .i64 (hn j))
theorem hends_new (w : World) (t : TypeId) : HEnds (w.alloc (.cells hnC t)) w.heap.size := fun j hj => by
  rw [World.cell?_alloc_new, hnC_at j hj]
theorem HEnds.only {w w' : World} {p : Nat} (h : HEnds w p) (k : Only [] w w') : HEnds w' p := fun j hj => k.cell (h j hj) (by simp)
/-- What Read returns on an error. -/
def HErr (w : World) (k : Int) (e : Ending) (w' : World) : Prop := e = .returned (.tuple #[hV h0 (.slice none 0 0) (.slice none 0 0), .int .i64 k]) ∧ Only [] w w'
set_option maxRecDepth 100000 in
set_option maxHeartbeats 4000000 in
theorem hread_nil1 {ref : Int} {idr : Bool} (w : World) (p : Option Addr) : Calls Tryz.prog 11 #[.pointer none, .int .u8 ref, .bool idr, .pointer p] w (HErr w 1) := by
  obtain ⟨w1, hw1⟩ : ∃ w1, w1 = w.alloc (.cells (hC h0 (.slice none 0 0) (.slice none 0 0)).toArray 34) := ⟨_, rfl⟩
  have O1 := hid (show Only [] w w1 from hw1 ▸ (Only.refl [] w).alloc _)
  have B1 := hid (show Blk w1 w.heap.size 34 (hC h0 (.slice none 0 0) (.slice none 0 0)).toArray from hw1 ▸ Blk.new w _ _)
  obtain ⟨R, hR⟩ : ∃ R, R = w.heap.size := ⟨_, rfl⟩
  rw [← hR] at B1
  have RN := hid hR
  have hw2 := hw1
  simp only [hC, h0] at hw2
  clear hw1
  go_enter Tryz.func11, Tryz.ntmps11
  go_upto_region 1 with (fail)
  rw [← hw2, ← hR]
  clear hw2 hR
  go_wp2_with (refine store_blk rfl 34 _ _ rfl R 0 _ _ (hC h0 (.slice none 0 0) (.slice none 0 0)) rfl rfl (info_hdr' _ _ _) B1.out (by decide) (one_hC _ rfl rfl) ?_; intro w2 hB2 hO2)
  rw [setsA_h] at hB2
  exact bodyPost_ret (res_ct rfl rfl rfl (lv_hdr hB2)) rfl ⟨rfl, O1.out.trans2 hO2 (fun y hy => by have := RN.out; simp at hy; exact .inr (by omega))⟩
set_option maxRecDepth 100000 in
set_option maxHeartbeats 4000000 in
theorem hread_nil2 {ref : Int} {idr : Bool} (w : World) (b : Nat) : Calls Tryz.prog 11 #[.pointer (some ⟨b, 0, none⟩), .int .u8 ref, .bool idr, .pointer none] w (HErr w 1) := by
  obtain ⟨w1, hw1⟩ : ∃ w1, w1 = w.alloc (.cells (hC h0 (.slice none 0 0) (.slice none 0 0)).toArray 34) := ⟨_, rfl⟩
  have O1 := hid (show Only [] w w1 from hw1 ▸ (Only.refl [] w).alloc _)
  have B1 := hid (show Blk w1 w.heap.size 34 (hC h0 (.slice none 0 0) (.slice none 0 0)).toArray from hw1 ▸ Blk.new w _ _)
  obtain ⟨R, hR⟩ : ∃ R, R = w.heap.size := ⟨_, rfl⟩
  rw [← hR] at B1
  have RN := hid hR
  have hw2 := hw1
  simp only [hC, h0] at hw2
  clear hw1
  go_enter Tryz.func11, Tryz.ntmps11
  go_upto_region 1 with (fail)
  rw [← hw2, ← hR]
  clear hw2 hR
  go_wp2_with (refine store_blk rfl 34 _ _ rfl R 0 _ _ (hC h0 (.slice none 0 0) (.slice none 0 0)) rfl rfl (info_hdr' _ _ _) B1.out (by decide) (one_hC _ rfl rfl) ?_; intro w2 hB2 hO2)
  rw [setsA_h] at hB2
  exact bodyPost_ret (res_ct rfl rfl rfl (lv_hdr hB2)) rfl ⟨rfl, O1.out.trans2 hO2 (fun y hy => by have := RN.out; simp at hy; exact .inr (by omega))⟩
end Go.Proofs.YtjjjfmnhdnajkaaGreatDoor

end
section
set_option maxRecDepth 20000
namespace Go.Proofs.YtjjjfmnhdnajkaaGreatDoor
open Go.RowKit
set_option linter.unusedVariables false
set_option linter.unusedSimpArgs false
def firstLoop : Code → Option Code
  | .loop c => some c
  | .seq a b => match firstLoop a with
    | some c => some c
    | none => firstLoop b
  | .block _ c => firstLoop c
  | .scope c => firstLoop c
  | .cond _ a b => match firstLoop a with
    | some c => some c
    | none => firstLoop b
  | _ => none
def blockIn : Code → Option Code
  | .seq _ (.seq (.block _ b) _) => some b
  | _ => none
/-- The first n parts, and another end. -/
def endWith : Nat → Code → Code → Code
  | n + 1, .seq x y, r => .seq x (endWith n y r)
  | _, _, r => r
/-- Without the first n parts. -/
def dropSeq : Nat → Code → Code
  | n + 1, .seq _ y => dropSeq n y
  | _, c => c
noncomputable def exB : Code := ((((Tryz.f3.body.bind firstLoop).bind firstLoop).bind blockIn).getD .skip)
/-- The unit of round k. -/
structure ExU (k : Nat) (un : UN) : Prop where
  r0 : 0 ≤ un.ref
  r1 : un.ref ≤ 1
  p : ∃ a b, un.p = { plainP with cab := a, db := b }
  s : un.s = plainS
set_option maxRecDepth 1000000 in
set_option maxHeartbeats 8000000 in
theorem ex_a (rest : Code) (Q : Exit → Act → World → Prop) (k : Nat) (kl : (k : Int) < 16) (w : World) (u0 u1 u2 u3 u5 u6 u7 u8 u9 u10 u11 u12 u13 u14 u15 u16 u17 u18 u19 u20 u21 u22 u23 u24 u25 u26 u27 u28 u29 u30 u31 u32 u33 u34 u35 u36 u37 u38 u39 u40 u41 u42 u43 u44 u45 u46 u47 u48 u49 u50 u51 u52 u53 u54 u55 u56 u57 u58 u59 u60 u61 u62 u63 u64 u65 u66 u67 u68 u69 u70 u71 u72 u73 u74 u75 u76 u77 u78 u79 u80 u81 u82 u83 u84 u85 u86 u87 u88 u89 u90 u91 u92 u93 u94 u95 u96 u97 u98 u99 u100 u101 u102 u103 u104 u105 u106 u107 u108 u109 u110 u111 u112 u113 u114 u115 u116 u117 u118 u119 u120 u121 u122 u123 u124 u125 u126 u127 u128 u129 u130 u131 u132 u133 u134 u135 u136 u137 u138 u139 u140 u141 u142 u143 u144 u145 u146 u147 u148 u149 u150 u151 u152 u153 u154 u155 u156 u157 u158 u159 u160 u161 u162 u163 u164 u165 u166 u167 u168 u169 u170 u171 u172 u173 u174 u175 u176 u177 u178 u179 u180 u181 u182 u183 u184 u185 u186 u187 u188 u189 u190 u191 u192 u193 u194 u195 u196 u197 u198 u199 u200 u201 u202 u203 u204 u205 u206 u207 u208 u209 u210 u211 u212 u213 u214 u215 u216 u217 u218 u219 u220 u221 u222 u223 u224 u225 u226 u227 u228 u229 u230 u231 u232 u233 u234 u235 u236 u237 u238 u239 u240 u241 u242 u243 u244 u245 u246 u247 u248 u249 u250 u251 u252 u253 u254 u255 u256 : Value)
    (hr : ∀ (A : Nat) (un : UN) (w' : World) (v33 v34 v35 v36 v37 v38 v39 v40 v41 v42 v43 v44 v45 v46 v47 v48 v49 v50 v51 : Value), ExU k un → Blk w' A 30 (uL un).toArray → w.heap.size ≤ A → Only [] w w' →
      rest.wp Tryz.prog Q ⟨#[u0, u1, u2, u3, .int .i64 k, .pointer (some ⟨A, 0, none⟩), u6, u7, u8, u9, u10, u11, u12, u13, u14, u15, u16, u17, u18, u19, u20, u21, u22, u23, u24, u25, u26, u27, u28, u29, u30, u31, u32, v33, v34, v35, v36, v37, v38, v39, v40, v41, v42, v43, v44, v45, v46, v47, v48, v49, v50, v51, u52, u53, u54, u55, u56, u57, u58, u59, u60, u61, u62, u63, u64, u65, u66, u67, u68, u69, u70, u71, u72, u73, u74, u75, u76, u77, u78, u79, u80, u81, u82, u83, u84, u85, u86, u87, u88, u89, u90, u91, u92, u93, u94, u95, u96, u97, u98, u99, u100, u101, u102, u103, u104, u105, u106, u107, u108, u109, u110, u111, u112, u113, u114, u115, u116, u117, u118, u119, u120, u121, u122, u123, u124, u125, u126, u127, u128, u129, u130, u131, u132, u133, u134, u135, u136, u137, u138, u139, u140, u141, u142, u143, u144, u145, u146, u147, u148, u149, u150, u151, u152, u153, u154, u155, u156, u157, u158, u159, u160, u161, u162, u163, u164, u165, u166, u167, u168, u169, u170, u171, u172, u173, u174, u175, u176, u177, u178, u179, u180, u181, u182, u183, u184, u185, u186, u187, u188, u189, u190, u191, u192, u193, u194, u195, u196, u197, u198, u199, u200, u201, u202, u203, u204, u205, u206, u207, u208, u209, u210, u211, u212, u213, u214, u215, u216, u217, u218, u219, u220, u221, u222, u223, u224, u225, u226, u227, u228, u229, u230, u231, u232, u233, u234, u235, u236, u237, u238, u239, u240, u241, u242, u243, u244, u245, u246, u247, u248, u249, u250, u251, u252, u253, u254, u255, u256], []⟩ w') :
    (endWith 2 exB rest).wp Tryz.prog Q ⟨#[u0, u1, u2, u3, .int .i64 k, u5, u6, u7, u8, u9, u10, u11, u12, u13, u14, u15, u16, u17, u18, u19, u20, u21, u22, u23, u24, u25, u26, u27, u28, u29, u30, u31, u32, u33, u34, u35, u36, u37, u38, u39, u40, u41, u42, u43, u44, u45, u46, u47, u48, u49, u50, u51, u52, u53, u54, u55, u56, u57, u58, u59, u60, u61, u62, u63, u64, u65, u66, u67, u68, u69, u70, u71, u72, u73, u74, u75, u76, u77, u78, u79, u80, u81, u82, u83, u84, u85, u86, u87, u88, u89, u90, u91, u92, u93, u94, u95, u96, u97, u98, u99, u100, u101, u102, u103, u104, u105, u106, u107, u108, u109, u110, u111, u112, u113, u114, u115, u116, u117, u118, u119, u120, u121, u122, u123, u124, u125, u126, u127, u128, u129, u130, u131, u132, u133, u134, u135, u136, u137, u138, u139, u140, u141, u142, u143, u144, u145, u146, u147, u148, u149, u150, u151, u152, u153, u154, u155, u156, u157, u158, u159, u160, u161, u162, u163, u164, u165, u166, u167, u168, u169, u170, u171, u172, u173, u174, u175, u176, u177, u178, u179, u180, u181, u182, u183, u184, u185, u186, u187, u188, u189, u190, u191, u192, u193, u194, u195, u196, u197, u198, u199, u200, u201, u202, u203, u204, u205, u206, u207, u208, u209, u210, u211, u212, u213, u214, u215, u216, u217, u218, u219, u220, u221, u222, u223, u224, u225, u226, u227, u228, u229, u230, u231, u232, u233, u234, u235, u236, u237, u238, u239, u240, u241, u242, u243, u244, u245, u246, u247, u248, u249, u250, u251, u252, u253, u254, u255, u256], []⟩ w := by
  conv => arg 2; whnf; arg 2; whnf; arg 2; whnf
  have HR := hid hr
  clear hr
  have k0 : (0 : Int) ≤ (k : Int) := by omega
  obtain ⟨kr, hkr⟩ : ∃ r : Nat, (k : Int) % 2 = (r : Int) := ⟨k % 2, by omega⟩
  obtain ⟨km, hkm⟩ : ∃ r : Nat, (k : Int) % 4 = (r : Int) := ⟨k % 4, by omega⟩
  have r0 : (0 : Int) ≤ (kr : Int) := by omega
  have r1 : (kr : Int) ≤ 1 := by omega
  obtain ⟨idr, hidr⟩ : ∃ b, ((km : Int) == 3) = b := ⟨_, rfl⟩
  obtain ⟨c4, hc4⟩ : ∃ c, bits .and .i64 (k : Int) 4 = c := ⟨_, rfl⟩
  obtain ⟨c8, hc8⟩ : ∃ c, bits .and .i64 (k : Int) 8 = c := ⟨_, rfl⟩
  obtain ⟨cab, hcab⟩ : ∃ b, (c4 == 4) = b := ⟨_, rfl⟩
  obtain ⟨db, hdb⟩ : ∃ b, (c8 == 8) = b := ⟨_, rfl⟩
  go_wp2_with fail
  refine (plain7_any _).mono ?_
  rintro e w3 ⟨rfl, o3⟩
  go_wp2_with fail
  refine (plain6_any _).mono ?_
  rintro e w4 ⟨rfl, o4⟩
  have O4 := hid (o3.trans o4)
  clear o3 o4
  simp only [pV, sV, pL, sL, plainP, plainS]
  go_upto_region 10 with (refine store_blk rfl 30 _ _ rfl w4.heap.size 0 _ _ (uL ⟨kr, idr, plainP, plainS⟩) rfl rfl (info_unit _) (Blk.new w4 _ _) (by simp [uL, pL, sL]) (one_uL _) ?_; intro w5 hB5 hO5; rw [setsA_full (by simp [uL, pL, sL])] at hB5)
  obtain ⟨A, hA⟩ : ∃ A, A = w4.heap.size := ⟨_, rfl⟩
  have o5 := ((Only.refl [] w4).alloc _).trans2 hO5 (fun y hy => .inr (by simp at hy; omega))
  have O5 := hid (O4.out.trans o5)
  have AW := hid (show w.heap.size ≤ A by rw [hA]; exact O4.out.size)
  rw [← hA] at hB5 ⊢
  clear hA o5 hO5
  have x4 := hB5.cell (i := 4) (v := .bool false) rfl
  have y4 := hB5.frozen 4
  have x10 := hB5.cell (i := 10) (v := .bool false) rfl
  have y10 := hB5.frozen 10
  have b8 := hid ((hB5.set 4 (.bool cab)).set 10 (.bool db))
  have o8 := hid (show Only [A] w5 ((w5.setCell ⟨A, 4, none⟩ (.bool cab)).setCell ⟨A, 10, none⟩ (.bool db)) from ((Only.refl _ _).setCell (.inl (by simp)) _).setCell (.inl (by simp)) _)
  clear hB5
  go_wp2_with fail
  exact HR.out A ⟨kr, idr, { plainP with cab := cab, db := db }, plainS⟩ _ _ _ _ _ _ _ _ _ _ _ _ _ _ _ _ _ _ _ _ ⟨r0, r1, ⟨_, _, rfl⟩, rfl⟩ b8.out AW.out (O5.out.trans2 o8.out (fun y hy => .inr (by have := AW.out; simp at hy; omega)))
end Go.Proofs.YtjjjfmnhdnajkaaGreatDoor

end
section
set_option maxRecDepth 20000
namespace Go.Proofs.YtjjjfmnhdnajkaaGreatDoor
open Go.RowKit
set_option linter.unusedVariables false
set_option linter.unusedSimpArgs false
/-- The header that the others are made of. -/
def exBase (b : Bool) : HV := { h0 with intra := b }
def hC12 (x : HV) : List Value := hC x (.slice none 0 0) (.slice none 0 0) ++ (hC x (.slice none 0 0) (.slice none 0 0) ++ (hC x (.slice none 0 0) (.slice none 0 0) ++ (hC x (.slice none 0 0) (.slice none 0 0) ++ (hC x (.slice none 0 0) (.slice none 0 0) ++ (hC x (.slice none 0 0) (.slice none 0 0) ++ (hC x (.slice none 0 0) (.slice none 0 0) ++ (hC x (.slice none 0 0) (.slice none 0 0) ++ (hC x (.slice none 0 0) (.slice none 0 0) ++ (hC x (.slice none 0 0) (.slice none 0 0) ++ (hC x (.slice none 0 0) (.slice none 0 0) ++ (hC x (.slice none 0 0) (.slice none 0 0))))))))))))
def exH12 (b : Bool) : Value := hV (exBase b) (.slice none 0 0) (.slice none 0 0)
set_option maxRecDepth 1000000 in
theorem run_build12 (b : Bool) (w : World) : (Instr.buildSlice 35 12 #[(0, exH12 b), (1, exH12 b), (2, exH12 b), (3, exH12 b), (4, exH12 b), (5, exH12 b), (6, exH12 b), (7, exH12 b), (8, exH12 b), (9, exH12 b), (10, exH12 b), (11, exH12 b)]).run Tryz.prog w =
    .ok (.slice (some ⟨w.heap.size, 0, none⟩) 12 12) (w.alloc (.cells (hC12 (exBase b)).toArray 34)) := by
  cases b <;> kernel_rfl
theorem wp_buildSlice {P : Program} {w w' : World} {ops : Array Oper} {rest : List Oper} {o : Oper} {a : Act} {Q : Exit → Act → World → Prop} (hg : o.guard = none) (t : TypeId) (n : Nat) (parts : Array (Nat × Operand)) (ho : o.op = .buildSlice t n parts)
    (vs : Array (Nat × Value)) (hx : parts.map (fun (i, x) => (i, a.eval x)) = vs) (v : Value) (hr : (Instr.buildSlice t n vs).run P w = .ok v w')
    (h : wpList P ops Q rest (a.put o.dst v) w') : wpList P ops Q (o :: rest) a w := by
  refine wpList_plain hg fun K hK => ?_
  unfold Oper.wp execOp
  simp only [ho]
  simp [hx, hr, Result.andThen]
  exact hK _ _ (by simpa using h)
end Go.Proofs.YtjjjfmnhdnajkaaGreatDoor

end
section
set_option maxRecDepth 20000
namespace Go.Proofs.YtjjjfmnhdnajkaaGreatDoor
open Go.RowKit
set_option linter.unusedVariables false
set_option linter.unusedSimpArgs false
set_option maxRecDepth 1000000 in
set_option maxHeartbeats 8000000 in
theorem ex_b (rest : Code) (Q : Exit → Act → World → Prop) (i A : Nat) (il : (i : Int) < 20) (un : UN) (w : World) (hB : Blk w A 30 (uL un).toArray) (u0 u1 u3 u4 u6 u7 u8 u9 u10 u11 u12 u13 u14 u15 u16 u17 u18 u19 u20 u21 u22 u23 u24 u25 u26 u27 u28 u29 u30 u31 u32 u33 u34 u35 u36 u37 u38 u39 u40 u41 u42 u43 u44 u45 u46 u47 u48 u49 u50 u51 u52 u53 u54 u55 u56 u57 u58 u59 u60 u61 u62 u63 u64 u65 u66 u67 u68 u69 u70 u71 u72 u73 u74 u75 u76 u77 u78 u79 u80 u81 u82 u83 u84 u85 u86 u87 u88 u89 u90 u91 u92 u93 u94 u95 u96 u97 u98 u99 u100 u101 u102 u103 u104 u105 u106 u107 u108 u109 u110 u111 u112 u113 u114 u115 u116 u117 u118 u119 u120 u121 u122 u123 u124 u125 u126 u127 u128 u129 u130 u131 u132 u133 u134 u135 u136 u137 u138 u139 u140 u141 u142 u143 u144 u145 u146 u147 u148 u149 u150 u151 u152 u153 u154 u155 u156 u157 u158 u159 u160 u161 u162 u163 u164 u165 u166 u167 u168 u169 u170 u171 u172 u173 u174 u175 u176 u177 u178 u179 u180 u181 u182 u183 u184 u185 u186 u187 u188 u189 u190 u191 u192 u193 u194 u195 u196 u197 u198 u199 u200 u201 u202 u203 u204 u205 u206 u207 u208 u209 u210 u211 u212 u213 u214 u215 u216 u217 u218 u219 u220 u221 u222 u223 u224 u225 u226 u227 u228 u229 u230 u231 u232 u233 u234 u235 u236 u237 u238 u239 u240 u241 u242 u243 u244 u245 u246 u247 u248 u249 u250 u251 u252 u253 u254 u255 u256 : Value)
    (hr : ∀ (B C : Nat) (b : Bool) (w' : World) (v52 v53 v54 v55 v56 v57 v58 v59 v60 v61 v62 v63 v64 v65 v66 v67 v68 v69 v70 v71 v72 : Value), Blk w' C 34 (hC12 (exBase b)).toArray → w.heap.size ≤ C → Only [] w w' →
      rest.wp Tryz.prog Q ⟨#[u0, u1, .int .i64 i, u3, u4, .pointer (some ⟨A, 0, none⟩), .pointer (some ⟨B, 0, none⟩), .slice (some ⟨C, 0, none⟩) 12 12, u8, u9, u10, u11, u12, u13, u14, u15, u16, u17, u18, u19, u20, u21, u22, u23, u24, u25, u26, u27, u28, u29, u30, u31, u32, u33, u34, u35, u36, u37, u38, u39, u40, u41, u42, u43, u44, u45, u46, u47, u48, u49, u50, u51, v52, v53, v54, v55, v56, v57, v58, v59, v60, v61, v62, v63, v64, v65, v66, v67, v68, v69, v70, v71, v72, u73, u74, u75, u76, u77, u78, u79, u80, u81, u82, u83, u84, u85, u86, u87, u88, u89, u90, u91, u92, u93, u94, u95, u96, u97, u98, u99, u100, u101, u102, u103, u104, u105, u106, u107, u108, u109, u110, u111, u112, u113, u114, u115, u116, u117, u118, u119, u120, u121, u122, u123, u124, u125, u126, u127, u128, u129, u130, u131, u132, u133, u134, u135, u136, u137, u138, u139, u140, u141, u142, u143, u144, u145, u146, u147, u148, u149, u150, u151, u152, u153, u154, u155, u156, u157, u158, u159, u160, u161, u162, u163, u164, u165, u166, u167, u168, u169, u170, u171, u172, u173, u174, u175, u176, u177, u178, u179, u180, u181, u182, u183, u184, u185, u186, u187, u188, u189, u190, u191, u192, u193, u194, u195, u196, u197, u198, u199, u200, u201, u202, u203, u204, u205, u206, u207, u208, u209, u210, u211, u212, u213, u214, u215, u216, u217, u218, u219, u220, u221, u222, u223, u224, u225, u226, u227, u228, u229, u230, u231, u232, u233, u234, u235, u236, u237, u238, u239, u240, u241, u242, u243, u244, u245, u246, u247, u248, u249, u250, u251, u252, u253, u254, u255, u256], []⟩ w') :
    (endWith 2 (dropSeq 2 exB) rest).wp Tryz.prog Q ⟨#[u0, u1, .int .i64 i, u3, u4, .pointer (some ⟨A, 0, none⟩), u6, u7, u8, u9, u10, u11, u12, u13, u14, u15, u16, u17, u18, u19, u20, u21, u22, u23, u24, u25, u26, u27, u28, u29, u30, u31, u32, u33, u34, u35, u36, u37, u38, u39, u40, u41, u42, u43, u44, u45, u46, u47, u48, u49, u50, u51, u52, u53, u54, u55, u56, u57, u58, u59, u60, u61, u62, u63, u64, u65, u66, u67, u68, u69, u70, u71, u72, u73, u74, u75, u76, u77, u78, u79, u80, u81, u82, u83, u84, u85, u86, u87, u88, u89, u90, u91, u92, u93, u94, u95, u96, u97, u98, u99, u100, u101, u102, u103, u104, u105, u106, u107, u108, u109, u110, u111, u112, u113, u114, u115, u116, u117, u118, u119, u120, u121, u122, u123, u124, u125, u126, u127, u128, u129, u130, u131, u132, u133, u134, u135, u136, u137, u138, u139, u140, u141, u142, u143, u144, u145, u146, u147, u148, u149, u150, u151, u152, u153, u154, u155, u156, u157, u158, u159, u160, u161, u162, u163, u164, u165, u166, u167, u168, u169, u170, u171, u172, u173, u174, u175, u176, u177, u178, u179, u180, u181, u182, u183, u184, u185, u186, u187, u188, u189, u190, u191, u192, u193, u194, u195, u196, u197, u198, u199, u200, u201, u202, u203, u204, u205, u206, u207, u208, u209, u210, u211, u212, u213, u214, u215, u216, u217, u218, u219, u220, u221, u222, u223, u224, u225, u226, u227, u228, u229, u230, u231, u232, u233, u234, u235, u236, u237, u238, u239, u240, u241, u242, u243, u244, u245, u246, u247, u248, u249, u250, u251, u252, u253, u254, u255, u256], []⟩ w := by
  conv => arg 2; whnf; arg 2; whnf; arg 2; whnf
  have HR := hid hr
  clear hr
  have i0 : (0 : Int) ≤ (i : Int) := by omega
  have ci := hB.cell (i := 1) (v := .bool un.idr) rfl
  obtain ⟨idr, hidr⟩ : ∃ b, b = un.idr := ⟨_, rfl⟩
  rw [← hidr] at ci
  obtain ⟨im, him⟩ : ∃ r : Nat, (i : Int) % 2 = (r : Int) := ⟨i % 2, by omega⟩
  obtain ⟨ev, hev⟩ : ∃ b, ((im : Int) == 0) = b := ⟨_, rfl⟩
  obtain ⟨b, hb⟩ : ∃ b, b = (idr || ev) := ⟨_, rfl⟩
  have HU := hid hB
  clear hB hidr
  have key : ∀ (x : Bool), x = b → True := fun _ _ => trivial
  cases idr
  all_goals
    simp only [Bool.false_or, Bool.true_or] at hb
    subst hb
    clear key
    go_upto_region 12 with (refine store_blk rfl 34 _ _ rfl w.heap.size 0 _ _ (hC (exBase _) (.slice none 0 0) (.slice none 0 0)) rfl rfl (info_hdr' _ _ _) (Blk.new w _ _) (by simp [hC]) (one_hC _ rfl rfl) ?_; intro w5 hB5 hO5; rw [setsA_full (by simp [hC])] at hB5)
    have o5 := ((Only.refl [] w).alloc _).trans2 hO5 (fun y hy => .inr (by simp at hy; omega))
    have O5 := hid o5
    obtain ⟨B, hB'⟩ : ∃ B, B = w.heap.size := ⟨_, rfl⟩
    rw [← hB'] at hB5 ⊢
    have B5 := hid hB5
    clear hB' o5 hO5 hB5
  · go_wp2_with (first
      | (refine load_atA rfl 34 _ rfl ⟨B, 0, none⟩ (hC (exBase b) (.slice none 0 0) (.slice none 0 0)) rfl (ho_hdrB B5.out) ?_; simp only [Act.put, List.setIfInBounds_toArray, List.set_cons_zero, List.set_cons_succ])
      | (refine wp_buildSlice rfl 35 12 _ rfl #[(0, exH12 b), (1, exH12 b), (2, exH12 b), (3, exH12 b), (4, exH12 b), (5, exH12 b), (6, exH12 b), (7, exH12 b), (8, exH12 b), (9, exH12 b), (10, exH12 b), (11, exH12 b)] (by kernel_rfl) _ (run_build12 b _) ?_; simp only [Act.put, List.setIfInBounds_toArray, List.set_cons_zero, List.set_cons_succ]))
    exact HR.out B w5.heap.size b _ _ _ _ _ _ _ _ _ _ _ _ _ _ _ _ _ _ _ _ _ _ (Blk.new w5 _ _) O5.out.size (O5.out.trans ((Only.refl _ _).alloc _))
  · go_wp2_with (first
      | (refine load_atA rfl 34 _ rfl ⟨B, 0, none⟩ (hC (exBase true) (.slice none 0 0) (.slice none 0 0)) rfl (ho_hdrB B5.out) ?_; simp only [Act.put, List.setIfInBounds_toArray, List.set_cons_zero, List.set_cons_succ])
      | (refine wp_buildSlice rfl 35 12 _ rfl #[(0, exH12 true), (1, exH12 true), (2, exH12 true), (3, exH12 true), (4, exH12 true), (5, exH12 true), (6, exH12 true), (7, exH12 true), (8, exH12 true), (9, exH12 true), (10, exH12 true), (11, exH12 true)] (by kernel_rfl) _ (run_build12 true _) ?_; simp only [Act.put, List.setIfInBounds_toArray, List.set_cons_zero, List.set_cons_succ]))
    exact HR.out B w5.heap.size true _ _ _ _ _ _ _ _ _ _ _ _ _ _ _ _ _ _ _ _ _ _ (Blk.new w5 _ _) O5.out.size (O5.out.trans ((Only.refl _ _).alloc _))
end Go.Proofs.YtjjjfmnhdnajkaaGreatDoor

end
section
set_option maxRecDepth 20000
namespace Go.Proofs.YtjjjfmnhdnajkaaGreatDoor
open Go.RowKit
set_option linter.unusedVariables false
set_option linter.unusedSimpArgs false
set_option maxRecDepth 1000000 in
set_option maxHeartbeats 8000000 in
theorem ex_c1 (rest : Code) (Q : Exit → Act → World → Prop) (C : Nat) (n : Int) (b : Bool) (w : World) (hB : Blk w C 34 (hC12 (exBase b)).toArray) (u0 u1 u2 u4 u5 u6 u8 u9 u10 u11 u12 u13 u14 u15 u16 u17 u18 u19 u20 u21 u22 u23 u24 u25 u26 u27 u28 u29 u30 u31 u32 u33 u34 u35 u36 u37 u38 u39 u40 u41 u42 u43 u44 u45 u46 u47 u48 u49 u50 u51 u52 u53 u54 u55 u56 u57 u58 u59 u60 u61 u62 u63 u64 u65 u66 u67 u68 u69 u70 u71 u72 u73 u74 u75 u76 u77 u78 u79 u80 u81 u82 u83 u84 u85 u86 u87 u88 u89 u90 u91 u92 u93 u94 u95 u96 u97 u98 u99 u100 u101 u102 u103 u104 u105 u106 u107 u108 u109 u110 u111 u112 u113 u114 u115 u116 u117 u118 u119 u120 u121 u122 u123 u124 u125 u126 u127 u128 u129 u130 u131 u132 u133 u134 u135 u136 u137 u138 u139 u140 u141 u142 u143 u144 u145 u146 u147 u148 u149 u150 u151 u152 u153 u154 u155 u156 u157 u158 u159 u160 u161 u162 u163 u164 u165 u166 u167 u168 u169 u170 u171 u172 u173 u174 u175 u176 u177 u178 u179 u180 u181 u182 u183 u184 u185 u186 u187 u188 u189 u190 u191 u192 u193 u194 u195 u196 u197 u198 u199 u200 u201 u202 u203 u204 u205 u206 u207 u208 u209 u210 u211 u212 u213 u214 u215 u216 u217 u218 u219 u220 u221 u222 u223 u224 u225 u226 u227 u228 u229 u230 u231 u232 u233 u234 u235 u236 u237 u238 u239 u240 u241 u242 u243 u244 u245 u246 u247 u248 u249 u250 u251 u252 u253 u254 u255 u256 : Value)
    (hr : ∀ (w' : World) (v73 v74 v75 v76 v77 v78 v79 v80 v81 v82 v83 v84 v85 v86 v87 v88 v89 v90 v91 v92 v93 v94 v95 v96 v97 v98 v99 v100 v101 v102 v103 v104 v105 v106 v107 v108 v109 v110 v111 v112 v113 v114 v115 v116 : Value), Blk w' C 34 ((((((((((((hC12 (exBase b)).toArray.setIfInBounds 0 (.int .i64 n)).setIfInBounds 23 (.int .i64 n)).setIfInBounds 44 (.int .i64 n)).setIfInBounds 65 (.int .i64 n)).setIfInBounds 86 (.int .i64 n)).setIfInBounds 108 (.int .i64 n)).setIfInBounds 135 (.int .i64 n)).setIfInBounds 156 (.int .i64 n)).setIfInBounds 177 (.int .i64 n)).setIfInBounds 198 (.int .i64 n)).setIfInBounds 219 (.int .i64 n)) → Only [C] w w' →
      rest.wp Tryz.prog Q ⟨#[u0, u1, u2, .int .i64 n, u4, u5, u6, .slice (some ⟨C, 0, none⟩) 12 12, u8, u9, u10, u11, u12, u13, u14, u15, u16, u17, u18, u19, u20, u21, u22, u23, u24, u25, u26, u27, u28, u29, u30, u31, u32, u33, u34, u35, u36, u37, u38, u39, u40, u41, u42, u43, u44, u45, u46, u47, u48, u49, u50, u51, u52, u53, u54, u55, u56, u57, u58, u59, u60, u61, u62, u63, u64, u65, u66, u67, u68, u69, u70, u71, u72, v73, v74, v75, v76, v77, v78, v79, v80, v81, v82, v83, v84, v85, v86, v87, v88, v89, v90, v91, v92, v93, v94, v95, v96, v97, v98, v99, v100, v101, v102, v103, v104, v105, v106, v107, v108, v109, v110, v111, v112, v113, v114, v115, v116, u117, u118, u119, u120, u121, u122, u123, u124, u125, u126, u127, u128, u129, u130, u131, u132, u133, u134, u135, u136, u137, u138, u139, u140, u141, u142, u143, u144, u145, u146, u147, u148, u149, u150, u151, u152, u153, u154, u155, u156, u157, u158, u159, u160, u161, u162, u163, u164, u165, u166, u167, u168, u169, u170, u171, u172, u173, u174, u175, u176, u177, u178, u179, u180, u181, u182, u183, u184, u185, u186, u187, u188, u189, u190, u191, u192, u193, u194, u195, u196, u197, u198, u199, u200, u201, u202, u203, u204, u205, u206, u207, u208, u209, u210, u211, u212, u213, u214, u215, u216, u217, u218, u219, u220, u221, u222, u223, u224, u225, u226, u227, u228, u229, u230, u231, u232, u233, u234, u235, u236, u237, u238, u239, u240, u241, u242, u243, u244, u245, u246, u247, u248, u249, u250, u251, u252, u253, u254, u255, u256], []⟩ w') :
    (endWith 1 (dropSeq 4 exB) rest).wp Tryz.prog Q ⟨#[u0, u1, u2, .int .i64 n, u4, u5, u6, .slice (some ⟨C, 0, none⟩) 12 12, u8, u9, u10, u11, u12, u13, u14, u15, u16, u17, u18, u19, u20, u21, u22, u23, u24, u25, u26, u27, u28, u29, u30, u31, u32, u33, u34, u35, u36, u37, u38, u39, u40, u41, u42, u43, u44, u45, u46, u47, u48, u49, u50, u51, u52, u53, u54, u55, u56, u57, u58, u59, u60, u61, u62, u63, u64, u65, u66, u67, u68, u69, u70, u71, u72, u73, u74, u75, u76, u77, u78, u79, u80, u81, u82, u83, u84, u85, u86, u87, u88, u89, u90, u91, u92, u93, u94, u95, u96, u97, u98, u99, u100, u101, u102, u103, u104, u105, u106, u107, u108, u109, u110, u111, u112, u113, u114, u115, u116, u117, u118, u119, u120, u121, u122, u123, u124, u125, u126, u127, u128, u129, u130, u131, u132, u133, u134, u135, u136, u137, u138, u139, u140, u141, u142, u143, u144, u145, u146, u147, u148, u149, u150, u151, u152, u153, u154, u155, u156, u157, u158, u159, u160, u161, u162, u163, u164, u165, u166, u167, u168, u169, u170, u171, u172, u173, u174, u175, u176, u177, u178, u179, u180, u181, u182, u183, u184, u185, u186, u187, u188, u189, u190, u191, u192, u193, u194, u195, u196, u197, u198, u199, u200, u201, u202, u203, u204, u205, u206, u207, u208, u209, u210, u211, u212, u213, u214, u215, u216, u217, u218, u219, u220, u221, u222, u223, u224, u225, u226, u227, u228, u229, u230, u231, u232, u233, u234, u235, u236, u237, u238, u239, u240, u241, u242, u243, u244, u245, u246, u247, u248, u249, u250, u251, u252, u253, u254, u255, u256], []⟩ w := by
  conv => arg 2; whnf; arg 2; whnf
  have HR := hid hr
  clear hr
  have x0 := hB.cell (i := 0) (v := .int .i64 0) (by cases b <;> kernel_rfl)
  have y0 := hB.frozen 0
  have x23 := hB.cell (i := 23) (v := .int .i64 0) (by cases b <;> kernel_rfl)
  have y23 := hB.frozen 23
  have x44 := hB.cell (i := 44) (v := .int .i64 0) (by cases b <;> kernel_rfl)
  have y44 := hB.frozen 44
  have x65 := hB.cell (i := 65) (v := .int .i64 0) (by cases b <;> kernel_rfl)
  have y65 := hB.frozen 65
  have x86 := hB.cell (i := 86) (v := .int .i64 0) (by cases b <;> kernel_rfl)
  have y86 := hB.frozen 86
  have x108 := hB.cell (i := 108) (v := .int .i64 0) (by cases b <;> kernel_rfl)
  have y108 := hB.frozen 108
  have x135 := hB.cell (i := 135) (v := .int .i64 0) (by cases b <;> kernel_rfl)
  have y135 := hB.frozen 135
  have x156 := hB.cell (i := 156) (v := .int .i64 0) (by cases b <;> kernel_rfl)
  have y156 := hB.frozen 156
  have x177 := hB.cell (i := 177) (v := .int .i64 0) (by cases b <;> kernel_rfl)
  have y177 := hB.frozen 177
  have x198 := hB.cell (i := 198) (v := .int .i64 0) (by cases b <;> kernel_rfl)
  have y198 := hB.frozen 198
  have x219 := hB.cell (i := 219) (v := .int .i64 0) (by cases b <;> kernel_rfl)
  have y219 := hB.frozen 219
  have b8 := hid ((((((((((((hB.set 0 (.int .i64 n)).set 23 (.int .i64 n)).set 44 (.int .i64 n)).set 65 (.int .i64 n)).set 86 (.int .i64 n)).set 108 (.int .i64 n)).set 135 (.int .i64 n)).set 156 (.int .i64 n)).set 177 (.int .i64 n)).set 198 (.int .i64 n)).set 219 (.int .i64 n)))
  have o8 := hid (show Only [C] w ((((((((((((w.setCell ⟨C, 0, none⟩ (.int .i64 n)).setCell ⟨C, 23, none⟩ (.int .i64 n)).setCell ⟨C, 44, none⟩ (.int .i64 n)).setCell ⟨C, 65, none⟩ (.int .i64 n)).setCell ⟨C, 86, none⟩ (.int .i64 n)).setCell ⟨C, 108, none⟩ (.int .i64 n)).setCell ⟨C, 135, none⟩ (.int .i64 n)).setCell ⟨C, 156, none⟩ (.int .i64 n)).setCell ⟨C, 177, none⟩ (.int .i64 n)).setCell ⟨C, 198, none⟩ (.int .i64 n)).setCell ⟨C, 219, none⟩ (.int .i64 n))) from ((((((((((((Only.refl _ _).setCell (.inl (by simp)) _).setCell (.inl (by simp)) _).setCell (.inl (by simp)) _).setCell (.inl (by simp)) _).setCell (.inl (by simp)) _).setCell (.inl (by simp)) _).setCell (.inl (by simp)) _).setCell (.inl (by simp)) _).setCell (.inl (by simp)) _).setCell (.inl (by simp)) _).setCell (.inl (by simp)) _))
  clear hB
  go_wp2_with fail
  exact HR.out _ _ _ _ _ _ _ _ _ _ _ _ _ _ _ _ _ _ _ _ _ _ _ _ _ _ _ _ _ _ _ _ _ _ _ _ _ _ _ _ _ _ _ _ _ b8.out o8.out
end Go.Proofs.YtjjjfmnhdnajkaaGreatDoor

end
section
set_option maxRecDepth 20000
namespace Go.Proofs.YtjjjfmnhdnajkaaGreatDoor
open Go.RowKit
set_option linter.unusedVariables false
set_option linter.unusedSimpArgs false
theorem run_mod1 (p a b : Int) (w : World) : (Instr.buildSlice 31 1 #[(0, .agg #[.int .u8 p, .int .i64 a, .int .i64 b])]).run Tryz.prog w = .ok (.slice (some ⟨w.heap.size, 0, none⟩) 1 1) (w.alloc (.cells (cellsM [(p, a, b)]).toArray 37)) := by kernel_rfl
set_option maxRecDepth 1000000 in
set_option maxHeartbeats 8000000 in
theorem ex_c2 (rest : Code) (Q : Exit → Act → World → Prop) (C : Nat) (n : Int) (Ar : Array Value) (w : World) (hB : Blk w C 34 Ar)
    (z107 : Value) (e107 : Ar[107]? = some z107) (z229 : Value) (e229 : Ar[229]? = some z229) (z230 : Value) (e230 : Ar[230]? = some z230) (z233 : Value) (e233 : Ar[233]? = some z233) (z234 : Value) (e234 : Ar[234]? = some z234) (u0 u1 u2 u4 u5 u6 u8 u9 u10 u11 u12 u13 u14 u15 u16 u17 u18 u19 u20 u21 u22 u23 u24 u25 u26 u27 u28 u29 u30 u31 u32 u33 u34 u35 u36 u37 u38 u39 u40 u41 u42 u43 u44 u45 u46 u47 u48 u49 u50 u51 u52 u53 u54 u55 u56 u57 u58 u59 u60 u61 u62 u63 u64 u65 u66 u67 u68 u69 u70 u71 u72 u73 u74 u75 u76 u77 u78 u79 u80 u81 u82 u83 u84 u85 u86 u87 u88 u89 u90 u91 u92 u93 u94 u95 u96 u97 u98 u99 u100 u101 u102 u103 u104 u105 u106 u107 u108 u109 u110 u111 u112 u113 u114 u115 u116 u117 u118 u119 u120 u121 u122 u123 u124 u125 u126 u127 u128 u129 u130 u131 u132 u133 u134 u135 u136 u137 u138 u139 u140 u141 u142 u143 u144 u145 u146 u147 u148 u149 u150 u151 u152 u153 u154 u155 u156 u157 u158 u159 u160 u161 u162 u163 u164 u165 u166 u167 u168 u169 u170 u171 u172 u173 u174 u175 u176 u177 u178 u179 u180 u181 u182 u183 u184 u185 u186 u187 u188 u189 u190 u191 u192 u193 u194 u195 u196 u197 u198 u199 u200 u201 u202 u203 u204 u205 u206 u207 u208 u209 u210 u211 u212 u213 u214 u215 u216 u217 u218 u219 u220 u221 u222 u223 u224 u225 u226 u227 u228 u229 u230 u231 u232 u233 u234 u235 u236 u237 u238 u239 u240 u241 u242 u243 u244 u245 u246 u247 u248 u249 u250 u251 u252 u253 u254 u255 u256 : Value)
    (hr : ∀ (M K : Nat) (w' : World) (v117 v118 v119 v120 v121 v122 v123 v124 v125 v126 v127 v128 v129 v130 v131 v132 v133 v134 v135 v136 v137 : Value), Blk w' C 34 (((((Ar.setIfInBounds 107 (.bool true)).setIfInBounds 229 (.bool true)).setIfInBounds 230 (.slice (some ⟨M, 0, none⟩) 1 1)).setIfInBounds 233 (.bool true)).setIfInBounds 234 (.slice (some ⟨K, 0, none⟩) 1 1)) → HoldsM w' (.slice (some ⟨M, 0, none⟩) 1 1) [(0, n, 0)] → HoldsM w' (.slice (some ⟨K, 0, none⟩) 1 1) [(3, 0, n)] → Only [C] w w' → rest.wp Tryz.prog Q ⟨#[u0, u1, u2, .int .i64 n, u4, u5, u6, .slice (some ⟨C, 0, none⟩) 12 12, u8, u9, u10, u11, u12, u13, u14, u15, u16, u17, u18, u19, u20, u21, u22, u23, u24, u25, u26, u27, u28, u29, u30, u31, u32, u33, u34, u35, u36, u37, u38, u39, u40, u41, u42, u43, u44, u45, u46, u47, u48, u49, u50, u51, u52, u53, u54, u55, u56, u57, u58, u59, u60, u61, u62, u63, u64, u65, u66, u67, u68, u69, u70, u71, u72, u73, u74, u75, u76, u77, u78, u79, u80, u81, u82, u83, u84, u85, u86, u87, u88, u89, u90, u91, u92, u93, u94, u95, u96, u97, u98, u99, u100, u101, u102, u103, u104, u105, u106, u107, u108, u109, u110, u111, u112, u113, u114, u115, u116, v117, v118, v119, v120, v121, v122, v123, v124, v125, v126, v127, v128, v129, v130, v131, v132, v133, v134, v135, v136, v137, u138, u139, u140, u141, u142, u143, u144, u145, u146, u147, u148, u149, u150, u151, u152, u153, u154, u155, u156, u157, u158, u159, u160, u161, u162, u163, u164, u165, u166, u167, u168, u169, u170, u171, u172, u173, u174, u175, u176, u177, u178, u179, u180, u181, u182, u183, u184, u185, u186, u187, u188, u189, u190, u191, u192, u193, u194, u195, u196, u197, u198, u199, u200, u201, u202, u203, u204, u205, u206, u207, u208, u209, u210, u211, u212, u213, u214, u215, u216, u217, u218, u219, u220, u221, u222, u223, u224, u225, u226, u227, u228, u229, u230, u231, u232, u233, u234, u235, u236, u237, u238, u239, u240, u241, u242, u243, u244, u245, u246, u247, u248, u249, u250, u251, u252, u253, u254, u255, u256], []⟩ w') :
    (endWith 1 (dropSeq 5 exB) rest).wp Tryz.prog Q ⟨#[u0, u1, u2, .int .i64 n, u4, u5, u6, .slice (some ⟨C, 0, none⟩) 12 12, u8, u9, u10, u11, u12, u13, u14, u15, u16, u17, u18, u19, u20, u21, u22, u23, u24, u25, u26, u27, u28, u29, u30, u31, u32, u33, u34, u35, u36, u37, u38, u39, u40, u41, u42, u43, u44, u45, u46, u47, u48, u49, u50, u51, u52, u53, u54, u55, u56, u57, u58, u59, u60, u61, u62, u63, u64, u65, u66, u67, u68, u69, u70, u71, u72, u73, u74, u75, u76, u77, u78, u79, u80, u81, u82, u83, u84, u85, u86, u87, u88, u89, u90, u91, u92, u93, u94, u95, u96, u97, u98, u99, u100, u101, u102, u103, u104, u105, u106, u107, u108, u109, u110, u111, u112, u113, u114, u115, u116, u117, u118, u119, u120, u121, u122, u123, u124, u125, u126, u127, u128, u129, u130, u131, u132, u133, u134, u135, u136, u137, u138, u139, u140, u141, u142, u143, u144, u145, u146, u147, u148, u149, u150, u151, u152, u153, u154, u155, u156, u157, u158, u159, u160, u161, u162, u163, u164, u165, u166, u167, u168, u169, u170, u171, u172, u173, u174, u175, u176, u177, u178, u179, u180, u181, u182, u183, u184, u185, u186, u187, u188, u189, u190, u191, u192, u193, u194, u195, u196, u197, u198, u199, u200, u201, u202, u203, u204, u205, u206, u207, u208, u209, u210, u211, u212, u213, u214, u215, u216, u217, u218, u219, u220, u221, u222, u223, u224, u225, u226, u227, u228, u229, u230, u231, u232, u233, u234, u235, u236, u237, u238, u239, u240, u241, u242, u243, u244, u245, u246, u247, u248, u249, u250, u251, u252, u253, u254, u255, u256], []⟩ w := by
  conv => arg 2; whnf; arg 2; whnf
  have HR := hid hr
  clear hr
  have r1 := run_mod1 0 n 0 w
  obtain ⟨W1, hW1⟩ : ∃ W, W = w.alloc (.cells (cellsM [(0, n, 0)]).toArray 37) := ⟨_, rfl⟩
  have r2 := run_mod1 3 0 n W1
  obtain ⟨W2, hW2⟩ : ∃ W, W = W1.alloc (.cells (cellsM [(3, 0, n)]).toArray 37) := ⟨_, rfl⟩
  have hM := holdsM_lit w [(0, n, 0)] (by simp [maxLen])
  have hK := holdsM_lit W1 [(3, 0, n)] (by simp [maxLen])
  have o1 : Only [] w W1 := hW1 ▸ ((Only.refl [] w).alloc _)
  have o2 : Only [] W1 W2 := hW2 ▸ ((Only.refl [] W1).alloc _)
  rw [← hW1] at r1 hM
  rw [← hW2] at r2 hK
  have cl := hB.lt
  have cl1 := o1.size
  obtain ⟨M, hM'⟩ : ∃ M, M = w.heap.size := ⟨_, rfl⟩
  obtain ⟨K, hK'⟩ : ∃ K, K = W1.heap.size := ⟨_, rfl⟩
  rw [← hM'] at r1 hM
  rw [← hK'] at r2 hK
  have hB2 := hB.only (o1.trans o2) (by simp)
  have x107 := hB2.cell (i := 107) e107
  have y107 := hB2.frozen 107
  have x229 := hB2.cell (i := 229) e229
  have y229 := hB2.frozen 229
  have x230 := hB2.cell (i := 230) e230
  have y230 := hB2.frozen 230
  have x233 := hB2.cell (i := 233) e233
  have y233 := hB2.frozen 233
  have x234 := hB2.cell (i := 234) e234
  have y234 := hB2.frozen 234
  have b8 := hid (((((hB2.set 107 (.bool true)).set 229 (.bool true)).set 230 (.slice (some ⟨M, 0, none⟩) 1 1)).set 233 (.bool true)).set 234 (.slice (some ⟨K, 0, none⟩) 1 1))
  have o8 := (show Only [C] W2 (((((W2.setCell ⟨C, 107, none⟩ (.bool true)).setCell ⟨C, 229, none⟩ (.bool true)).setCell ⟨C, 230, none⟩ (.slice (some ⟨M, 0, none⟩) 1 1)).setCell ⟨C, 233, none⟩ (.bool true)).setCell ⟨C, 234, none⟩ (.slice (some ⟨K, 0, none⟩) 1 1)) from ((((((Only.refl _ _).setCell (.inl (by simp)) _).setCell (.inl (by simp)) _).setCell (.inl (by simp)) _).setCell (.inl (by simp)) _).setCell (.inl (by simp)) _))
  have OO := hid (((o1.trans o2).mono (by simp) : Only [C] w W2).trans o8)
  have h1 := hid ((hM.only0 o2).only2 o8 (fun ad nn c e hl hm => by rw [List.mem_singleton] at hm; cases e; simp at hm; omega))
  have h2 := hid (hK.only2 o8 (fun ad nn c e hl hm => by rw [List.mem_singleton] at hm; cases e; simp at hm; omega))
  have R1 := hid r1
  have R2 := hid r2
  clear hB hB2 hM hK o1 o2 o8 r1 r2 hW1 hW2 hM' hK' cl cl1 e107 e229 e230 e233 e234
  go_wp2_with (first
    | (refine wp_buildSlice rfl 31 1 #[(0, .tmp 123)] rfl #[(0, .agg #[.int .u8 0, .int .i64 n, .int .i64 0])] (by kernel_rfl) _ R1.out ?_; simp only [Act.put, List.setIfInBounds_toArray, List.set_cons_zero, List.set_cons_succ])
    | (refine wp_buildSlice rfl 31 1 #[(0, .tmp 126)] rfl #[(0, .agg #[.int .u8 3, .int .i64 0, .int .i64 n])] (by kernel_rfl) _ R2.out ?_; simp only [Act.put, List.setIfInBounds_toArray, List.set_cons_zero, List.set_cons_succ]))
  exact HR.out M K _ _ _ _ _ _ _ _ _ _ _ _ _ _ _ _ _ _ _ _ _ _ b8.out h1.out h2.out OO.out
end Go.Proofs.YtjjjfmnhdnajkaaGreatDoor

end
section
set_option maxRecDepth 20000
namespace Go.Proofs.YtjjjfmnhdnajkaaGreatDoor
open Go.RowKit
set_option linter.unusedVariables false
set_option linter.unusedSimpArgs false
/-- A header, and where its lists lie. -/
abbrev EX := HV × (Option Addr × Nat) × (Option Addr × Nat)
def exC (p : EX) : List Value := hC p.1 (.slice p.2.1.1 p.2.1.2 p.2.1.2) (.slice p.2.2.1 p.2.2.2 p.2.2.2)
theorem exC_ok : CellsN exC 20 := ⟨fun _ => rfl, fun x u h => by
  simp only [exC, hC, List.mem_cons, List.not_mem_nil, or_false] at h
  rcases h with h | h | h | h | h | h | h | h | h | h | h | h | h | h | h | h | h | h | h | h <;> (subst h; rfl), by omega⟩
def exL (b : Bool) (n : Int) (M K : Nat) : List EX := [({ exBase b with fi := n }, (none, 0), (none, 0)), ({ exBase b with pps := n }, (none, 0), (none, 0)), ({ exBase b with fr := n }, (none, 0), (none, 0)), ({ exBase b with idr := n }, (none, 0), (none, 0)), ({ exBase b with poc := n }, (none, 0), (none, 0)), ({ exBase b with refs := n, over := true }, (none, 0), (none, 0)), ({ exBase b with ini := n }, (none, 0), (none, 0)), ({ exBase b with qp := n }, (none, 0), (none, 0)), ({ exBase b with fil := n }, (none, 0), (none, 0)), ({ exBase b with a := n }, (none, 0), (none, 0)), ({ exBase b with b := n }, (none, 0), (none, 0)), ({ exBase b with listed := true, mods := [(0, n, 0)], ad := true, marks := [(3, 0, n)] }, (some ⟨M, 0, none⟩, 1), (some ⟨K, 0, none⟩, 1))]
set_option maxRecDepth 1000000 in
theorem exArr (b : Bool) (n : Int) (M K : Nat) : (((((((((((((((((hC12 (exBase b)).toArray.setIfInBounds 0 (.int .i64 n)).setIfInBounds 23 (.int .i64 n)).setIfInBounds 44 (.int .i64 n)).setIfInBounds 65 (.int .i64 n)).setIfInBounds 86 (.int .i64 n)).setIfInBounds 108 (.int .i64 n)).setIfInBounds 135 (.int .i64 n)).setIfInBounds 156 (.int .i64 n)).setIfInBounds 177 (.int .i64 n)).setIfInBounds 198 (.int .i64 n)).setIfInBounds 219 (.int .i64 n)).setIfInBounds 107 (.bool true)).setIfInBounds 229 (.bool true)).setIfInBounds 230 (.slice (some ⟨M, 0, none⟩) 1 1)).setIfInBounds 233 (.bool true)).setIfInBounds 234 (.slice (some ⟨K, 0, none⟩) 1 1)) = (cellsG exC (exL b n M K)).toArray := by cases b <;> kernel_rfl
structure ExAt (w : World) (C : Nat) (b : Bool) (n : Int) (M K : Nat) : Prop where
  b : Blk w C 34 (cellsG exC (exL b n M K)).toArray
  m : HoldsM w (.slice (some ⟨M, 0, none⟩) 1 1) [(0, n, 0)]
  k : HoldsM w (.slice (some ⟨K, 0, none⟩) 1 1) [(3, 0, n)]
theorem ExAt.only {w w' : World} {C : Nat} {b : Bool} {n : Int} {M K : Nat} (h : ExAt w C b n M K) (o : Only [] w w') : ExAt w' C b n M K := ⟨h.b.only o (by simp), h.m.only0 o, h.k.only0 o⟩
theorem ho_hdrO {w : World} {k off : Nat} {x : HV} {mv kv : Value} (hc : ∀ j v, (hC x mv kv)[j]? = some v → w.cell? ⟨k, off + j, none⟩ = some v) : (Instr.loadAt 34 (.pointer (some ⟨k, off, none⟩))).run Tryz.prog w = .ok (.agg (hC x mv kv).toArray) w := by
  have hl := run_loadCells_list (P := Tryz.prog) w ⟨k, off, none⟩ (hC x mv kv) (fun j v hj => by rw [add_off]; exact hc j v hj)
  rw [show (hC x mv kv).length = 20 from rfl] at hl
  simp only [Instr.loadAt, Instr.sureAddr, Sem.run_bind, Sem.run_pure, Result.andThen_ok, loadVar]
  simp [hl]
theorem ExAt.load {w : World} {C : Nat} {b : Bool} {n : Int} {M K : Nat} (h : ExAt w C b n M K) {j : Nat} {p : EX} (hp : (exL b n M K)[j]? = some p) : (Instr.loadAt 34 (.pointer (some ⟨C, j * 20, none⟩))).run Tryz.prog w = .ok (.agg (exC p).toArray) w :=
  ho_hdrO (fun i v hi => h.b.cell (by simpa using cellsG_at exC_ok _ j p hp i v hi))
/-- What is known of each. -/
structure ExOk (w : World) (p : EX) : Prop where
  m : HoldsM w (.slice p.2.1.1 p.2.1.2 p.2.1.2) p.1.mods
  k : HoldsM w (.slice p.2.2.1 p.2.2.2 p.2.2.2) p.1.marks
  om : OksM p.1.mods
  ok : OksM p.1.marks
  q0 : -9223372036854775808 ≤ p.1.qp
  q1 : p.1.qp ≤ 9223372036854775807
theorem ExAt.each {w : World} {C : Nat} {b : Bool} {n : Int} {M K : Nat} (h : ExAt w C b n M K) (n0 : -9223372036854775808 ≤ n) (n1 : n ≤ 9223372036854775807) {j : Nat} {p : EX} (hp : (exL b n M K)[j]? = some p) : ExOk w p := by
  have z : ∀ x : HV, x.mods = [] → x.marks = [] → -9223372036854775808 ≤ x.qp → x.qp ≤ 9223372036854775807 → ExOk w (x, (none, 0), (none, 0)) := fun x e1 e2 a b => ⟨by rw [e1]; exact holdsM_none w, by rw [e2]; exact holdsM_none w, by rw [e1]; exact oksM_nil, by rw [e2]; exact oksM_nil, a, b⟩
  have hj : j < 12 := (List.getElem?_eq_some_iff.1 hp).1
  have z0 : (-9223372036854775808 : Int) ≤ 0 := by decide
  have z1 : (0 : Int) ≤ 9223372036854775807 := by decide
  obtain rfl | rfl | rfl | rfl | rfl | rfl | rfl | rfl | rfl | rfl | rfl | rfl : j = 0 ∨ j = 1 ∨ j = 2 ∨ j = 3 ∨ j = 4 ∨ j = 5 ∨ j = 6 ∨ j = 7 ∨ j = 8 ∨ j = 9 ∨ j = 10 ∨ j = 11 := by omega
  · cases hp; exact z _ rfl rfl z0 z1
  · cases hp; exact z _ rfl rfl z0 z1
  · cases hp; exact z _ rfl rfl z0 z1
  · cases hp; exact z _ rfl rfl z0 z1
  · cases hp; exact z _ rfl rfl z0 z1
  · cases hp; exact z _ rfl rfl z0 z1
  · cases hp; exact z _ rfl rfl z0 z1
  · cases hp; exact z _ rfl rfl n0 n1
  · cases hp; exact z _ rfl rfl z0 z1
  · cases hp; exact z _ rfl rfl z0 z1
  · cases hp; exact z _ rfl rfl z0 z1
  · cases hp
    refine ⟨h.m, h.k, ?_, ?_, z0, z1⟩
    · intro i x hx
      rw [List.mem_singleton.1 (List.mem_of_getElem? hx)]
      have w0 : (0 : Int) ≤ 0 ∧ (0 : Int) ≤ 255 := by decide
      exact ⟨w0, ⟨n0, n1⟩, z0, z1⟩
    · intro i x hx
      rw [List.mem_singleton.1 (List.mem_of_getElem? hx)]
      have w0 : (0 : Int) ≤ 3 ∧ (3 : Int) ≤ 255 := by decide
      exact ⟨w0, ⟨z0, z1⟩, n0, n1⟩
set_option maxRecDepth 1000000 in
set_option maxHeartbeats 8000000 in
theorem ex_c (rest : Code) (Q : Exit → Act → World → Prop) (C : Nat) (n : Int) (b : Bool) (w : World) (hB : Blk w C 34 (hC12 (exBase b)).toArray) (u0 u1 u2 u4 u5 u6 u8 u9 u10 u11 u12 u13 u14 u15 u16 u17 u18 u19 u20 u21 u22 u23 u24 u25 u26 u27 u28 u29 u30 u31 u32 u33 u34 u35 u36 u37 u38 u39 u40 u41 u42 u43 u44 u45 u46 u47 u48 u49 u50 u51 u52 u53 u54 u55 u56 u57 u58 u59 u60 u61 u62 u63 u64 u65 u66 u67 u68 u69 u70 u71 u72 u73 u74 u75 u76 u77 u78 u79 u80 u81 u82 u83 u84 u85 u86 u87 u88 u89 u90 u91 u92 u93 u94 u95 u96 u97 u98 u99 u100 u101 u102 u103 u104 u105 u106 u107 u108 u109 u110 u111 u112 u113 u114 u115 u116 u117 u118 u119 u120 u121 u122 u123 u124 u125 u126 u127 u128 u129 u130 u131 u132 u133 u134 u135 u136 u137 u138 u139 u140 u141 u142 u143 u144 u145 u146 u147 u148 u149 u150 u151 u152 u153 u154 u155 u156 u157 u158 u159 u160 u161 u162 u163 u164 u165 u166 u167 u168 u169 u170 u171 u172 u173 u174 u175 u176 u177 u178 u179 u180 u181 u182 u183 u184 u185 u186 u187 u188 u189 u190 u191 u192 u193 u194 u195 u196 u197 u198 u199 u200 u201 u202 u203 u204 u205 u206 u207 u208 u209 u210 u211 u212 u213 u214 u215 u216 u217 u218 u219 u220 u221 u222 u223 u224 u225 u226 u227 u228 u229 u230 u231 u232 u233 u234 u235 u236 u237 u238 u239 u240 u241 u242 u243 u244 u245 u246 u247 u248 u249 u250 u251 u252 u253 u254 u255 u256 : Value)
    (hr : ∀ (M K : Nat) (w' : World) (v73 v74 v75 v76 v77 v78 v79 v80 v81 v82 v83 v84 v85 v86 v87 v88 v89 v90 v91 v92 v93 v94 v95 v96 v97 v98 v99 v100 v101 v102 v103 v104 v105 v106 v107 v108 v109 v110 v111 v112 v113 v114 v115 v116 v117 v118 v119 v120 v121 v122 v123 v124 v125 v126 v127 v128 v129 v130 v131 v132 v133 v134 v135 v136 v137 : Value), ExAt w' C b n M K → Only [C] w w' → rest.wp Tryz.prog Q ⟨#[u0, u1, u2, .int .i64 n, u4, u5, u6, .slice (some ⟨C, 0, none⟩) 12 12, u8, u9, u10, u11, u12, u13, u14, u15, u16, u17, u18, u19, u20, u21, u22, u23, u24, u25, u26, u27, u28, u29, u30, u31, u32, u33, u34, u35, u36, u37, u38, u39, u40, u41, u42, u43, u44, u45, u46, u47, u48, u49, u50, u51, u52, u53, u54, u55, u56, u57, u58, u59, u60, u61, u62, u63, u64, u65, u66, u67, u68, u69, u70, u71, u72, v73, v74, v75, v76, v77, v78, v79, v80, v81, v82, v83, v84, v85, v86, v87, v88, v89, v90, v91, v92, v93, v94, v95, v96, v97, v98, v99, v100, v101, v102, v103, v104, v105, v106, v107, v108, v109, v110, v111, v112, v113, v114, v115, v116, v117, v118, v119, v120, v121, v122, v123, v124, v125, v126, v127, v128, v129, v130, v131, v132, v133, v134, v135, v136, v137, u138, u139, u140, u141, u142, u143, u144, u145, u146, u147, u148, u149, u150, u151, u152, u153, u154, u155, u156, u157, u158, u159, u160, u161, u162, u163, u164, u165, u166, u167, u168, u169, u170, u171, u172, u173, u174, u175, u176, u177, u178, u179, u180, u181, u182, u183, u184, u185, u186, u187, u188, u189, u190, u191, u192, u193, u194, u195, u196, u197, u198, u199, u200, u201, u202, u203, u204, u205, u206, u207, u208, u209, u210, u211, u212, u213, u214, u215, u216, u217, u218, u219, u220, u221, u222, u223, u224, u225, u226, u227, u228, u229, u230, u231, u232, u233, u234, u235, u236, u237, u238, u239, u240, u241, u242, u243, u244, u245, u246, u247, u248, u249, u250, u251, u252, u253, u254, u255, u256], []⟩ w') :
    (endWith 2 (dropSeq 4 exB) rest).wp Tryz.prog Q ⟨#[u0, u1, u2, .int .i64 n, u4, u5, u6, .slice (some ⟨C, 0, none⟩) 12 12, u8, u9, u10, u11, u12, u13, u14, u15, u16, u17, u18, u19, u20, u21, u22, u23, u24, u25, u26, u27, u28, u29, u30, u31, u32, u33, u34, u35, u36, u37, u38, u39, u40, u41, u42, u43, u44, u45, u46, u47, u48, u49, u50, u51, u52, u53, u54, u55, u56, u57, u58, u59, u60, u61, u62, u63, u64, u65, u66, u67, u68, u69, u70, u71, u72, u73, u74, u75, u76, u77, u78, u79, u80, u81, u82, u83, u84, u85, u86, u87, u88, u89, u90, u91, u92, u93, u94, u95, u96, u97, u98, u99, u100, u101, u102, u103, u104, u105, u106, u107, u108, u109, u110, u111, u112, u113, u114, u115, u116, u117, u118, u119, u120, u121, u122, u123, u124, u125, u126, u127, u128, u129, u130, u131, u132, u133, u134, u135, u136, u137, u138, u139, u140, u141, u142, u143, u144, u145, u146, u147, u148, u149, u150, u151, u152, u153, u154, u155, u156, u157, u158, u159, u160, u161, u162, u163, u164, u165, u166, u167, u168, u169, u170, u171, u172, u173, u174, u175, u176, u177, u178, u179, u180, u181, u182, u183, u184, u185, u186, u187, u188, u189, u190, u191, u192, u193, u194, u195, u196, u197, u198, u199, u200, u201, u202, u203, u204, u205, u206, u207, u208, u209, u210, u211, u212, u213, u214, u215, u216, u217, u218, u219, u220, u221, u222, u223, u224, u225, u226, u227, u228, u229, u230, u231, u232, u233, u234, u235, u236, u237, u238, u239, u240, u241, u242, u243, u244, u245, u246, u247, u248, u249, u250, u251, u252, u253, u254, u255, u256], []⟩ w := by
  rw [show endWith 2 (dropSeq 4 exB) rest = endWith 1 (dropSeq 4 exB) (endWith 1 (dropSeq 5 exB) rest) from by kernel_rfl]
  refine ex_c1 _ Q C n b w hB _ _ _ _ _ _ _ _ _ _ _ _ _ _ _ _ _ _ _ _ _ _ _ _ _ _ _ _ _ _ _ _ _ _ _ _ _ _ _ _ _ _ _ _ _ _ _ _ _ _ _ _ _ _ _ _ _ _ _ _ _ _ _ _ _ _ _ _ _ _ _ _ _ _ _ _ _ _ _ _ _ _ _ _ _ _ _ _ _ _ _ _ _ _ _ _ _ _ _ _ _ _ _ _ _ _ _ _ _ _ _ _ _ _ _ _ _ _ _ _ _ _ _ _ _ _ _ _ _ _ _ _ _ _ _ _ _ _ _ _ _ _ _ _ _ _ _ _ _ _ _ _ _ _ _ _ _ _ _ _ _ _ _ _ _ _ _ _ _ _ _ _ _ _ _ _ _ _ _ _ _ _ _ _ _ _ _ _ _ _ _ _ _ _ _ _ _ _ _ _ _ _ _ _ _ _ _ _ _ _ _ _ _ _ _ _ _ _ _ _ _ _ _ _ _ _ _ _ _ _ _ _ _ _ _ _ _ _ _ _ _ _ _ _ _ _ _ _ _ _ _ _ _ _ _ (fun w1 v73 v74 v75 v76 v77 v78 v79 v80 v81 v82 v83 v84 v85 v86 v87 v88 v89 v90 v91 v92 v93 v94 v95 v96 v97 v98 v99 v100 v101 v102 v103 v104 v105 v106 v107 v108 v109 v110 v111 v112 v113 v114 v115 v116 hB1 o1 => ?_)
  refine ex_c2 _ Q C n _ w1 hB1 (.bool false) (by cases b <;> kernel_rfl) (.bool false) (by cases b <;> kernel_rfl) (.slice none 0 0) (by cases b <;> kernel_rfl) (.bool false) (by cases b <;> kernel_rfl) (.slice none 0 0) (by cases b <;> kernel_rfl) _ _ _ _ _ _ _ _ _ _ _ _ _ _ _ _ _ _ _ _ _ _ _ _ _ _ _ _ _ _ _ _ _ _ _ _ _ _ _ _ _ _ _ _ _ _ _ _ _ _ _ _ _ _ _ _ _ _ _ _ _ _ _ _ _ _ _ _ _ _ _ _ _ _ _ _ _ _ _ _ _ _ _ _ _ _ _ _ _ _ _ _ _ _ _ _ _ _ _ _ _ _ _ _ _ _ _ _ _ _ _ _ _ _ _ _ _ _ _ _ _ _ _ _ _ _ _ _ _ _ _ _ _ _ _ _ _ _ _ _ _ _ _ _ _ _ _ _ _ _ _ _ _ _ _ _ _ _ _ _ _ _ _ _ _ _ _ _ _ _ _ _ _ _ _ _ _ _ _ _ _ _ _ _ _ _ _ _ _ _ _ _ _ _ _ _ _ _ _ _ _ _ _ _ _ _ _ _ _ _ _ _ _ _ _ _ _ _ _ _ _ _ _ _ _ _ _ _ _ _ _ _ _ _ _ _ _ _ _ _ _ _ _ _ _ _ _ _ _ _ _ _ _ _ _ (fun M K w2 v117 v118 v119 v120 v121 v122 v123 v124 v125 v126 v127 v128 v129 v130 v131 v132 v133 v134 v135 v136 v137 hB2 hM hK o2 => ?_)
  rw [exArr] at hB2
  exact hr M K w2 _ _ _ _ _ _ _ _ _ _ _ _ _ _ _ _ _ _ _ _ _ _ _ _ _ _ _ _ _ _ _ _ _ _ _ _ _ _ _ _ _ _ _ _ _ _ _ _ _ _ _ _ _ _ _ _ _ _ _ _ _ _ _ _ _ ⟨hB2, hM, hK⟩ (o1.trans o2)
end Go.Proofs.YtjjjfmnhdnajkaaGreatDoor

end
section
set_option maxRecDepth 20000
namespace Go.Proofs.YtjjjfmnhdnajkaaGreatDoor
open Go.RowKit
set_option linter.unusedVariables false
set_option linter.unusedSimpArgs false
set_option maxRecDepth 1000000 in
set_option maxHeartbeats 8000000 in
theorem ex_d (rest : Code) (Q : Exit → Act → World → Prop) (hQ : ∀ c (a : Act) d v w, Q (.panic c) (a.put (some d) v) w → Q (.panic c) a w) (A C : Nat) (n : Int) (b : Bool) (M K : Nat) (un : UN) (w : World) (hVr : Vars w) (hE : ExAt w C b n M K) (hU : Blk w A 30 (uL un).toArray) (r0 : 0 ≤ un.ref) (n0 : -9223372036854775808 ≤ n) (n1 : n ≤ 9223372036854775807) (u0 u1 u2 u3 u4 u6 u8 u9 u10 u11 u12 u13 u14 u15 u16 u17 u18 u19 u20 u21 u22 u23 u24 u25 u26 u27 u28 u29 u30 u31 u32 u33 u34 u35 u36 u37 u38 u39 u40 u41 u42 u43 u44 u45 u46 u47 u48 u49 u50 u51 u52 u53 u54 u55 u56 u57 u58 u59 u60 u61 u62 u63 u64 u65 u66 u67 u68 u69 u70 u71 u72 u73 u74 u75 u76 u77 u78 u79 u80 u81 u82 u83 u84 u85 u86 u87 u88 u89 u90 u91 u92 u93 u94 u95 u96 u97 u98 u99 u100 u101 u102 u103 u104 u105 u106 u107 u108 u109 u110 u111 u112 u113 u114 u115 u116 u117 u118 u119 u120 u121 u122 u123 u124 u125 u126 u127 u128 u129 u130 u131 u132 u133 u134 u135 u136 u137 u138 u139 u140 u141 u142 u143 u144 u145 u146 u147 u148 u149 u150 u151 u152 u153 u154 u155 u156 u157 u158 u159 u160 u161 u162 u163 u164 u165 u166 u167 u168 u169 u170 u171 u172 u173 u174 u175 u176 u177 u178 u179 u180 u181 u182 u183 u184 u185 u186 u187 u188 u189 u190 u191 u192 u193 u194 u195 u196 u197 u198 u199 u200 u201 u202 u203 u204 u205 u206 u207 u208 u209 u210 u211 u212 u213 u214 u215 u216 u217 u218 u219 u220 u221 u222 u223 u224 u225 u226 u227 u228 u229 u230 u231 u232 u233 u234 u235 u236 u237 u238 u239 u240 u241 u242 u243 u244 u245 u246 u247 u248 u249 u250 u251 u252 u253 u254 u255 u256 : Value)
    (hr : ∀ (w' : World) (v0 v8 v138 v139 v140 v141 v142 v143 v144 v145 v146 v147 v148 v149 v150 : Value), Only [] w w' → rest.wp Tryz.prog Q ⟨#[v0, u1, u2, u3, u4, .pointer (some ⟨A, 0, none⟩), u6, .slice (some ⟨C, 0, none⟩) 12 12, v8, u9, u10, u11, u12, u13, u14, u15, u16, u17, u18, u19, u20, u21, u22, u23, u24, u25, u26, u27, u28, u29, u30, u31, u32, u33, u34, u35, u36, u37, u38, u39, u40, u41, u42, u43, u44, u45, u46, u47, u48, u49, u50, u51, u52, u53, u54, u55, u56, u57, u58, u59, u60, u61, u62, u63, u64, u65, u66, u67, u68, u69, u70, u71, u72, u73, u74, u75, u76, u77, u78, u79, u80, u81, u82, u83, u84, u85, u86, u87, u88, u89, u90, u91, u92, u93, u94, u95, u96, u97, u98, u99, u100, u101, u102, u103, u104, u105, u106, u107, u108, u109, u110, u111, u112, u113, u114, u115, u116, u117, u118, u119, u120, u121, u122, u123, u124, u125, u126, u127, u128, u129, u130, u131, u132, u133, u134, u135, u136, u137, v138, v139, v140, v141, v142, v143, v144, v145, v146, v147, v148, v149, v150, u151, u152, u153, u154, u155, u156, u157, u158, u159, u160, u161, u162, u163, u164, u165, u166, u167, u168, u169, u170, u171, u172, u173, u174, u175, u176, u177, u178, u179, u180, u181, u182, u183, u184, u185, u186, u187, u188, u189, u190, u191, u192, u193, u194, u195, u196, u197, u198, u199, u200, u201, u202, u203, u204, u205, u206, u207, u208, u209, u210, u211, u212, u213, u214, u215, u216, u217, u218, u219, u220, u221, u222, u223, u224, u225, u226, u227, u228, u229, u230, u231, u232, u233, u234, u235, u236, u237, u238, u239, u240, u241, u242, u243, u244, u245, u246, u247, u248, u249, u250, u251, u252, u253, u254, u255, u256], []⟩ w') :
    (endWith 1 (dropSeq 6 exB) rest).wp Tryz.prog Q ⟨#[u0, u1, u2, u3, u4, .pointer (some ⟨A, 0, none⟩), u6, .slice (some ⟨C, 0, none⟩) 12 12, u8, u9, u10, u11, u12, u13, u14, u15, u16, u17, u18, u19, u20, u21, u22, u23, u24, u25, u26, u27, u28, u29, u30, u31, u32, u33, u34, u35, u36, u37, u38, u39, u40, u41, u42, u43, u44, u45, u46, u47, u48, u49, u50, u51, u52, u53, u54, u55, u56, u57, u58, u59, u60, u61, u62, u63, u64, u65, u66, u67, u68, u69, u70, u71, u72, u73, u74, u75, u76, u77, u78, u79, u80, u81, u82, u83, u84, u85, u86, u87, u88, u89, u90, u91, u92, u93, u94, u95, u96, u97, u98, u99, u100, u101, u102, u103, u104, u105, u106, u107, u108, u109, u110, u111, u112, u113, u114, u115, u116, u117, u118, u119, u120, u121, u122, u123, u124, u125, u126, u127, u128, u129, u130, u131, u132, u133, u134, u135, u136, u137, u138, u139, u140, u141, u142, u143, u144, u145, u146, u147, u148, u149, u150, u151, u152, u153, u154, u155, u156, u157, u158, u159, u160, u161, u162, u163, u164, u165, u166, u167, u168, u169, u170, u171, u172, u173, u174, u175, u176, u177, u178, u179, u180, u181, u182, u183, u184, u185, u186, u187, u188, u189, u190, u191, u192, u193, u194, u195, u196, u197, u198, u199, u200, u201, u202, u203, u204, u205, u206, u207, u208, u209, u210, u211, u212, u213, u214, u215, u216, u217, u218, u219, u220, u221, u222, u223, u224, u225, u226, u227, u228, u229, u230, u231, u232, u233, u234, u235, u236, u237, u238, u239, u240, u241, u242, u243, u244, u245, u246, u247, u248, u249, u250, u251, u252, u253, u254, u255, u256], []⟩ w := by
  conv => arg 2; whnf; arg 2; whnf
  have HR := hid hr
  clear hr
  have VV := hid hVr
  have EE := hid hE
  have UU := hid hU
  have R0 := hid r0
  have NN := hid (And.intro n0 n1)
  clear hVr hE hU r0 n0 n1
  go_wp2_with fail
  go_loopg [8] 12 (fun g t wr => ∃ j : Nat, j + g = 12 ∧ t = .int .i64 j ∧ Only [] w wr)
  case atStart => exact ⟨0, rfl, rfl, Only.refl [] w⟩
  case round =>
    obtain ⟨j, hj, rfl, hO⟩ := hrel
    have OO := hid hO
    clear hO
    by_cases hg : gk = 0
    · have i1 : ¬ (j : Int) < 12 := by omega
      clear hj hg
      go_wp2_with fail
      exact HR.out _ _ _ _ _ _ _ _ _ _ _ _ _ _ _ _ OO.out
    · have i1 : (j : Int) < 12 := by omega
      have i0 : (0 : Int) ≤ (j : Int) := by omega
      obtain ⟨gg, rfl⟩ : ∃ gg, gk = gg + 1 := ⟨gk - 1, by omega⟩
      have JN := hid (show j + 1 + gg = 12 by omega)
      obtain ⟨p, hp⟩ : ∃ p, (exL b n M K)[j]? = some p := ⟨_, List.getElem?_eq_getElem (by show j < 12; omega)⟩
      have EX := EE.out.each NN.out.1 NN.out.2 hp
      have LH := hid (fun w' (o : Only [] wr w') => (EE.out.only (OO.out.trans o)).load hp)
      have LU := hid (fun w' (o : Only [] wr w') => ho_unitB (UU.out.only (OO.out.trans o) (by simp)))
      have HC := hid (fun w' (o : Only [] wr w') => hchecks_any p.1 un _ _ w' (VV.out.only0 (OO.out.trans o)) (EX.m.only0 (OO.out.trans o)) (EX.k.only0 (OO.out.trans o)) EX.om EX.ok R0.out EX.q0 EX.q1)
      clear hj hg hp EX
      go_upto_region 18 with fail
      refine wp_region_heldH (fun w' => Only [] wr w') 7 (by kernel_rfl) rfl (Only.refl [] wr).drew (fun hS => ?_)
      generalize wr.drew = wd at *
      refine wpAnyH_read 0 (v := ?va1) rfl (by kernel_rfl) (by kernel_rfl) (by kernel_rfl) (fun _ _ _ h => hQ _ _ _ _ _ h) hS (Or.inl ⟨by rfl, ?ya1⟩) ?ra1
      case ya1 =>
        intro w hSw
        skip
        go_simp
        (try with_reducible rfl)
      (try simp only [Act.put, List.setIfInBounds_toArray, List.set_cons_zero, List.set_cons_succ])
      refine wpAnyH_read 1 (v := ?va2) rfl (by kernel_rfl) (by kernel_rfl) (by kernel_rfl) (fun _ _ _ h => hQ _ _ _ _ _ h) hS (Or.inl ⟨by rfl, ?ya2⟩) ?ra2
      case ya2 =>
        intro w hSw
        skip
        go_simp
        (try with_reducible rfl)
      (try simp only [Act.put, List.setIfInBounds_toArray, List.set_cons_zero, List.set_cons_succ])
      refine wpAnyH_read 2 (v := ?va3) rfl (by kernel_rfl) (by kernel_rfl) (by kernel_rfl) (fun _ _ _ h => hQ _ _ _ _ _ h) hS (Or.inl ⟨by rfl, ?ya3⟩) ?ra3
      case ya3 =>
        intro w hSw
        skip
        go_simp
        (try with_reducible rfl)
      (try simp only [Act.put, List.setIfInBounds_toArray, List.set_cons_zero, List.set_cons_succ])
      refine wpAnyH_read 3 rfl (by kernel_rfl) (by kernel_rfl) (by kernel_rfl) (fun _ _ _ h => hQ _ _ _ _ _ h) hS (yields_load 34 _ (by rfl) rfl ⟨C, j * 20, none⟩ (exC p) rfl LH.out) ?_
      (try simp only [Act.put, List.setIfInBounds_toArray, List.set_cons_zero, List.set_cons_succ])
      refine wpAnyH_read 4 rfl (by kernel_rfl) (by kernel_rfl) (by kernel_rfl) (fun _ _ _ h => hQ _ _ _ _ _ h) hS (yields_load 30 _ (by rfl) rfl ⟨A, 0, none⟩ (uL un) rfl LU.out) ?_
      (try simp only [Act.put, List.setIfInBounds_toArray, List.set_cons_zero, List.set_cons_succ])
      refine wpAnyH_call 5 rfl (by kernel_rfl) (fun J hJ => ?_)
      rw [if_pos (by rfl)]
      go_simp
      refine (HC.out _ hS).mono ?_
      rintro e u1 ⟨rfl, p_⟩
      have s1 := hS.trans p_
      clear p_
      refine hJ.out _ _ s1 ?_
      clear hJ J
      (try simp only [Act.put, List.setIfInBounds_toArray, List.set_cons_zero, List.set_cons_succ])
      refine wpAnyH_read 6 (v := ?va4) rfl (by kernel_rfl) (by kernel_rfl) (by kernel_rfl) (fun _ _ _ h => hQ _ _ _ _ _ h) s1 (Or.inl ⟨by rfl, ?ya4⟩) ?ra4
      case ya4 =>
        intro w hSw
        skip
        go_simp
        (try with_reducible rfl)
      (try simp only [Act.put, List.setIfInBounds_toArray, List.set_cons_zero, List.set_cons_succ])
      refine wpAnyH_done (by kernel_rfl) ?_ _
      go_wp2_with fail
      go_roundg gg
      case measure => omega
      case rel => exact ⟨j + 1, JN.out, by go_num, OO.out.trans s1⟩
end Go.Proofs.YtjjjfmnhdnajkaaGreatDoor

end

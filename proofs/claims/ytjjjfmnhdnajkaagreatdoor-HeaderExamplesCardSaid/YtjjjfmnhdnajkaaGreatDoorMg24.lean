/- HeaderExamples: Put; the bytes that were written. -/
/- HeaderExamples: a bit of a byte is changed. -/
/- HeaderExamples: the two readings. -/
/- HeaderExamples: the body of the loop over k. -/
/- HeaderExamples: what follows the loops. -/
/- HeaderExamples: the whole. -/
import Derived.Test.YtjjjfmnhdnajkaaGreatDoorMg23
import Derived.ArgAppend
import Derived.Laws.IdiomStrings
import Derived.Laws.Closers25b
import Derived.Test.YtjjjfmnhdnajkaaGreatDoorMg13
import Derived.Test.YtjjjfmnhdnajkaaGreatDoorMg18
import Derived.Test.YtjjjfmnhdnajkaaGreatDoorMg14
import Derived.Test.YtjjjfmnhdnajkaaGreatDoorHlE
import Derived.Deep.LoopGhost
import Derived.Deep.CutBlock
section
set_option maxRecDepth 20000
namespace Go.Proofs.YtjjjfmnhdnajkaaGreatDoor
open Go.RowKit
set_option linter.unusedVariables false
set_option linter.unusedSimpArgs false
/-- The block g holds the bytes bs, in c cells. -/
structure BufE (w : World) (g c : Nat) (bs : List UInt8) : Prop where
  le : bs.length ≤ c
  cell : ∀ (j : Nat) (x : UInt8), bs[j]? = some x → w.cell? ⟨g, j, none⟩ = some (.int .u8 (x.toNat : Int))
  room : ∀ j, j < c → (w.cell? ⟨g, j, none⟩).isSome = true ∧ w.frozen? ⟨g, j, none⟩ = false
theorem BufE.set {w : World} {g c : Nat} {bs : List UInt8} (h : BufE w g c bs) (k : Nat) (hk : k < bs.length) (x : UInt8) : BufE (w.setCell ⟨g, k, none⟩ (.int .u8 (x.toNat : Int))) g c (bs.set k x) := by
  have hle := h.le
  have old : w.cell? ⟨g, k, none⟩ = some (.int .u8 (bs[k].toNat : Int)) := h.cell k _ (List.getElem?_eq_getElem hk)
  refine ⟨by simpa using hle, fun j y hj => ?_, fun j hj => ⟨?_, by rw [World.frozen?_setCell]; exact (h.room j hj).2⟩⟩
  · by_cases e : j = k
    · subst e
      rw [List.getElem?_set_self hk] at hj
      cases hj
      exact World.cell?_setCell_same _ _ _ old
    · rw [List.getElem?_set_ne (by omega)] at hj
      rw [World.cell?_setCell_other _ _ _ _ (by simp <;> omega)]
      exact h.cell j y hj
  · by_cases e : j = k
    · subst e
      rw [World.cell?_setCell_same _ _ _ old]; rfl
    · rw [World.cell?_setCell_other _ _ _ _ (by simp <;> omega)]
      exact (h.room j hj).1
theorem BufE.keep {w w' : World} {g c : Nat} {bs : List UInt8} (h : BufE w g c bs) (o : Only [] w w') : BufE w' g c bs := by
  refine ⟨h.le, fun j x hj => o.cell (h.cell j x hj) (by simp), fun j hj => ?_⟩
  obtain ⟨a, b⟩ := h.room j hj
  obtain ⟨v, hv⟩ := Option.isSome_iff_exists.1 a
  exact ⟨by rw [o.cell hv (by simp)]; rfl, by rw [o.frozen (World.block_lt_of_cell? _ _ hv) (by simp)]; exact b⟩
theorem conv_bufE (s : ByteArray) (w : World) : ∃ c w', (convert 9 43 (.string s)).run Tryz.prog w = .ok (.slice (some ⟨w.heap.size, 0, none⟩) s.size c) w' ∧ BufE w' w.heap.size c s.data.toList ∧ Only [] w w' := by
  refine ⟨_, _, run_bytes_of_string (P := Tryz.prog) w _ _ 5 s und_str und_bytes und_u8, ?_, ((Only.refl [] w).drew).alloc _⟩
  have hge : s.size ≤ grownCap w s.size 0 5 := grownCap_ge w s.size 0 5
  generalize grownCap w s.size 0 5 = c at *
  have sz : (bytesRow s c).size = c := by
    unfold bytesRow
    rw [Array.size_append, Array.size_map, Array.size_replicate]
    show s.size + (c - s.size) = c
    omega
  have cl : ∀ i, (w.drew.alloc (.cells (bytesRow s c) 5 ((bytesRow s c).size, (bytesRow s c).size + 1))).cell? ⟨w.heap.size, i, none⟩ = (bytesRow s c)[i]? := fun i => World.cell?_alloc_mark w.drew (bytesRow s c) 5 _ i
  refine ⟨by simpa using hge, fun j x hj => ?_, fun j hj => ⟨?_, ?_⟩⟩
  · rw [cl]
    obtain ⟨hj1, hj2⟩ := List.getElem?_eq_some_iff.1 hj
    have h2 : j < s.data.size := by simpa using hj1
    unfold bytesRow
    rw [Array.getElem?_append_left (by simpa using h2), Array.getElem?_map, Array.getElem?_eq_getElem h2]
    simp only [Option.map_some, Option.some.injEq]
    rw [← hj2]
    simp
  · rw [cl, Array.getElem?_eq_getElem (by rw [sz]; exact hj)]; rfl
  · have := World.frozen?_alloc_mark w.drew (bytesRow s c) 5 (bytesRow s c).size ((bytesRow s c).size + 1) j
    rw [show w.drew.heap.size = w.heap.size from rfl] at this
    rw [this, decide_eq_false (by rw [sz]; omega)]
    rfl
theorem putH_len (un : UN) (x : HV) : (putH un x []).2.length ≤ 200000 := by
  unfold putH
  by_cases h : checkH un x ≠ 0
  · rw [if_pos h]; simp
  · rw [if_neg h]
    have := bitsH_le (un := un) (x := x) (by simpa using h)
    simpa using this
def ex7 (b : Bool) (n : Int) : EX := ({ exBase b with qp := n }, (none, 0), (none, 0))
set_option maxRecDepth 1000000 in
set_option maxHeartbeats 8000000 in
theorem ex_e (rest : Code) (Q : Exit → Act → World → Prop) (hQ : ∀ c (a : Act) d v w, Q (.panic c) (a.put (some d) v) w → Q (.panic c) a w) (A C : Nat) (n : Int) (b : Bool) (M K : Nat) (un : UN) (w : World) (hVr : Vars w) (hE : ExAt w C b n M K) (hU : Blk w A 30 (uL un).toArray) (r0 : 0 ≤ un.ref) (n0 : -9223372036854775808 ≤ n) (n1 : n ≤ 9223372036854775807) (u0 u1 u2 u3 u4 u6 u8 u9 u10 u11 u12 u13 u14 u15 u16 u17 u18 u19 u20 u21 u22 u23 u24 u25 u26 u27 u28 u29 u30 u31 u32 u33 u34 u35 u36 u37 u38 u39 u40 u41 u42 u43 u44 u45 u46 u47 u48 u49 u50 u51 u52 u53 u54 u55 u56 u57 u58 u59 u60 u61 u62 u63 u64 u65 u66 u67 u68 u69 u70 u71 u72 u73 u74 u75 u76 u77 u78 u79 u80 u81 u82 u83 u84 u85 u86 u87 u88 u89 u90 u91 u92 u93 u94 u95 u96 u97 u98 u99 u100 u101 u102 u103 u104 u105 u106 u107 u108 u109 u110 u111 u112 u113 u114 u115 u116 u117 u118 u119 u120 u121 u122 u123 u124 u125 u126 u127 u128 u129 u130 u131 u132 u133 u134 u135 u136 u137 u138 u139 u140 u141 u142 u143 u144 u145 u146 u147 u148 u149 u150 u151 u152 u153 u154 u155 u156 u157 u158 u159 u160 u161 u162 u163 u164 u165 u166 u167 u168 u169 u170 u171 u172 u173 u174 u175 u176 u177 u178 u179 u180 u181 u182 u183 u184 u185 u186 u187 u188 u189 u190 u191 u192 u193 u194 u195 u196 u197 u198 u199 u200 u201 u202 u203 u204 u205 u206 u207 u208 u209 u210 u211 u212 u213 u214 u215 u216 u217 u218 u219 u220 u221 u222 u223 u224 u225 u226 u227 u228 u229 u230 u231 u232 u233 u234 u235 u236 u237 u238 u239 u240 u241 u242 u243 u244 u245 u246 u247 u248 u249 u250 u251 u252 u253 u254 u255 u256 : Value)
    (hr : ∀ (B c : Nat) (bs : List UInt8) (w' : World) (v9 v151 v152 v153 v154 v155 v156 v157 v158 v159 v160 v161 v162 v163 v164 v165 v166 v167 : Value), BufE w' B c bs → bs.length ≤ 30000 → w.heap.size ≤ B → Only [] w w' → rest.wp Tryz.prog Q ⟨#[u0, u1, u2, u3, u4, .pointer (some ⟨A, 0, none⟩), u6, .slice (some ⟨C, 0, none⟩) 12 12, u8, v9, .slice (some ⟨B, 0, none⟩) bs.length c, u11, u12, u13, u14, u15, u16, u17, u18, u19, u20, u21, u22, u23, u24, u25, u26, u27, u28, u29, u30, u31, u32, u33, u34, u35, u36, u37, u38, u39, u40, u41, u42, u43, u44, u45, u46, u47, u48, u49, u50, u51, u52, u53, u54, u55, u56, u57, u58, u59, u60, u61, u62, u63, u64, u65, u66, u67, u68, u69, u70, u71, u72, u73, u74, u75, u76, u77, u78, u79, u80, u81, u82, u83, u84, u85, u86, u87, u88, u89, u90, u91, u92, u93, u94, u95, u96, u97, u98, u99, u100, u101, u102, u103, u104, u105, u106, u107, u108, u109, u110, u111, u112, u113, u114, u115, u116, u117, u118, u119, u120, u121, u122, u123, u124, u125, u126, u127, u128, u129, u130, u131, u132, u133, u134, u135, u136, u137, u138, u139, u140, u141, u142, u143, u144, u145, u146, u147, u148, u149, u150, v151, v152, v153, v154, v155, v156, v157, v158, v159, v160, v161, v162, v163, v164, v165, v166, v167, u168, u169, u170, u171, u172, u173, u174, u175, u176, u177, u178, u179, u180, u181, u182, u183, u184, u185, u186, u187, u188, u189, u190, u191, u192, u193, u194, u195, u196, u197, u198, u199, u200, u201, u202, u203, u204, u205, u206, u207, u208, u209, u210, u211, u212, u213, u214, u215, u216, u217, u218, u219, u220, u221, u222, u223, u224, u225, u226, u227, u228, u229, u230, u231, u232, u233, u234, u235, u236, u237, u238, u239, u240, u241, u242, u243, u244, u245, u246, u247, u248, u249, u250, u251, u252, u253, u254, u255, u256], []⟩ w') :
    (endWith 3 (dropSeq 7 exB) rest).wp Tryz.prog Q ⟨#[u0, u1, u2, u3, u4, .pointer (some ⟨A, 0, none⟩), u6, .slice (some ⟨C, 0, none⟩) 12 12, u8, u9, u10, u11, u12, u13, u14, u15, u16, u17, u18, u19, u20, u21, u22, u23, u24, u25, u26, u27, u28, u29, u30, u31, u32, u33, u34, u35, u36, u37, u38, u39, u40, u41, u42, u43, u44, u45, u46, u47, u48, u49, u50, u51, u52, u53, u54, u55, u56, u57, u58, u59, u60, u61, u62, u63, u64, u65, u66, u67, u68, u69, u70, u71, u72, u73, u74, u75, u76, u77, u78, u79, u80, u81, u82, u83, u84, u85, u86, u87, u88, u89, u90, u91, u92, u93, u94, u95, u96, u97, u98, u99, u100, u101, u102, u103, u104, u105, u106, u107, u108, u109, u110, u111, u112, u113, u114, u115, u116, u117, u118, u119, u120, u121, u122, u123, u124, u125, u126, u127, u128, u129, u130, u131, u132, u133, u134, u135, u136, u137, u138, u139, u140, u141, u142, u143, u144, u145, u146, u147, u148, u149, u150, u151, u152, u153, u154, u155, u156, u157, u158, u159, u160, u161, u162, u163, u164, u165, u166, u167, u168, u169, u170, u171, u172, u173, u174, u175, u176, u177, u178, u179, u180, u181, u182, u183, u184, u185, u186, u187, u188, u189, u190, u191, u192, u193, u194, u195, u196, u197, u198, u199, u200, u201, u202, u203, u204, u205, u206, u207, u208, u209, u210, u211, u212, u213, u214, u215, u216, u217, u218, u219, u220, u221, u222, u223, u224, u225, u226, u227, u228, u229, u230, u231, u232, u233, u234, u235, u236, u237, u238, u239, u240, u241, u242, u243, u244, u245, u246, u247, u248, u249, u250, u251, u252, u253, u254, u255, u256], []⟩ w := by
  conv => arg 2; whnf; arg 2; whnf; arg 2; whnf; arg 2; whnf
  have HR := hid hr
  clear hr
  have VV := hid hVr
  have cl := hE.b.lt
  have al := hU.lt
  have OKM : OksM (ex7 b n).1.mods ∧ OksM (ex7 b n).1.marks := ⟨oksM_nil, oksM_nil⟩
  have OKX := hid OKM
  have EE := hid hE
  have UU := hid hU
  have R0 := hid r0
  clear hVr hE hU r0 n0 n1 OKM
  go_wp2_with fail
  refine (write_any w).mono ?_
  rintro e w1 ⟨rfl, hw, o1⟩
  obtain ⟨r, hr⟩ : ∃ r, r = w.heap.size := ⟨_, rfl⟩
  rw [← hr] at hw ⊢
  have o1' : Only [r] w w1 := o1.mono (by simp)
  have LH := hid (fun w' (o : Only [r] w1 w') => ho_hdrO (k := C) (off := 7 * 20) (x := (ex7 b n).1) (mv := .slice none 0 0) (kv := .slice none 0 0) (w := w') (fun i v hi => (EE.out.b.only (o1'.trans o) (by simp; omega)).cell (by simpa using cellsG_at exC_ok _ 7 (ex7 b n) rfl i v hi)))
  have UB := hid (fun w' (o : Only [r] w1 w') => UU.out.only (o1'.trans o) (by simp; omega))
  have LP := hid (fun w' (o : Only [r] w1 w') => ho_ppsU (UB.out w' o))
  have LS := hid (fun w' (o : Only [r] w1 w') => ho_spsU (UB.out w' o))
  have XC := hid (fun w' (o : Only [r] w1 w') => And.intro ((UB.out w' o).cell (i := 0) (v := .int .u8 un.ref) rfl) ((UB.out w' o).cell (i := 1) (v := .bool un.idr) rfl))
  have HP := hid (hput_any (ex7 b n).1 un (.slice none 0 0) (.slice none 0 0) r (.slice none 0 0) [] w1.drew ((VV.out.only0 o1).only0 (Only.refl [] w1).drew) (holdsM_none _) (holdsM_none _) OKX.out.1 OKX.out.2 R0.out
    (hw.only (Only.refl [] w1).drew (by simp) (by simp)) (fun m hm => by have := VV.out.lt m; simp [ownOf, Value.ownBlock] at hm; omega) (fun _ _ _ e => by cases e) (fun _ _ _ e => by cases e) (by simp))
  have O1 := hid o1
  have RW := hid hr
  clear o1 o1' hr hw cl al
  go_upto_region 21 with fail
  refine wp_region_heldH (fun w' => Only [r] w1 w') 13 (by kernel_rfl) rfl (Only.refl [r] w1).drew (fun hS => ?_)
  generalize w1.drew = wd at *
  refine wpAnyH_read 0 (v := ?va1) rfl (by kernel_rfl) (by kernel_rfl) (by kernel_rfl) (fun _ _ _ h => hQ _ _ _ _ _ h) hS (Or.inl ⟨by rfl, ?ya1⟩) ?ra1
  case ya1 =>
    intro w hSw
    obtain ⟨c0, c1⟩ := XC.out w hSw
    go_simp
    (try with_reducible rfl)
  (try simp only [Act.put, List.setIfInBounds_toArray, List.set_cons_zero, List.set_cons_succ])
  refine wpAnyH_read 1 (v := ?va2) rfl (by kernel_rfl) (by kernel_rfl) (by kernel_rfl) (fun _ _ _ h => hQ _ _ _ _ _ h) hS (Or.inl ⟨by rfl, ?ya2⟩) ?ra2
  case ya2 =>
    intro w hSw
    obtain ⟨c0, c1⟩ := XC.out w hSw
    go_simp
    (try with_reducible rfl)
  (try simp only [Act.put, List.setIfInBounds_toArray, List.set_cons_zero, List.set_cons_succ])
  refine wpAnyH_read 2 (v := ?va3) rfl (by kernel_rfl) (by kernel_rfl) (by kernel_rfl) (fun _ _ _ h => hQ _ _ _ _ _ h) hS (Or.inl ⟨by rfl, ?ya3⟩) ?ra3
  case ya3 =>
    intro w hSw
    obtain ⟨c0, c1⟩ := XC.out w hSw
    go_simp
    (try with_reducible rfl)
  (try simp only [Act.put, List.setIfInBounds_toArray, List.set_cons_zero, List.set_cons_succ])
  refine wpAnyH_read 3 rfl (by kernel_rfl) (by kernel_rfl) (by kernel_rfl) (fun _ _ _ h => hQ _ _ _ _ _ h) hS (yields_load 34 _ (by rfl) rfl ⟨C, 7 * 20, none⟩ (exC (ex7 b n)) rfl LH.out) ?_
  (try simp only [Act.put, List.setIfInBounds_toArray, List.set_cons_zero, List.set_cons_succ])
  refine wpAnyH_read 4 (v := ?va4) rfl (by kernel_rfl) (by kernel_rfl) (by kernel_rfl) (fun _ _ _ h => hQ _ _ _ _ _ h) hS (Or.inl ⟨by rfl, ?ya4⟩) ?ra4
  case ya4 =>
    intro w hSw
    obtain ⟨c0, c1⟩ := XC.out w hSw
    go_simp
    (try with_reducible rfl)
  (try simp only [Act.put, List.setIfInBounds_toArray, List.set_cons_zero, List.set_cons_succ])
  refine wpAnyH_read 5 (v := ?va5) rfl (by kernel_rfl) (by kernel_rfl) (by kernel_rfl) (fun _ _ _ h => hQ _ _ _ _ _ h) hS (Or.inl ⟨by rfl, ?ya5⟩) ?ra5
  case ya5 =>
    intro w hSw
    obtain ⟨c0, c1⟩ := XC.out w hSw
    go_simp
    (try with_reducible rfl)
  (try simp only [Act.put, List.setIfInBounds_toArray, List.set_cons_zero, List.set_cons_succ])
  refine wpAnyH_read 6 (v := ?va6) rfl (by kernel_rfl) (by kernel_rfl) (by kernel_rfl) (fun _ _ _ h => hQ _ _ _ _ _ h) hS (Or.inl ⟨by rfl, ?ya6⟩) ?ra6
  case ya6 =>
    intro w hSw
    obtain ⟨c0, c1⟩ := XC.out w hSw
    go_simp
    (try with_reducible rfl)
  (try simp only [Act.put, List.setIfInBounds_toArray, List.set_cons_zero, List.set_cons_succ])
  refine wpAnyH_read 7 (v := ?va7) rfl (by kernel_rfl) (by kernel_rfl) (by kernel_rfl) (fun _ _ _ h => hQ _ _ _ _ _ h) hS (Or.inl ⟨by rfl, ?ya7⟩) ?ra7
  case ya7 =>
    intro w hSw
    obtain ⟨c0, c1⟩ := XC.out w hSw
    go_simp
    (try with_reducible rfl)
  (try simp only [Act.put, List.setIfInBounds_toArray, List.set_cons_zero, List.set_cons_succ])
  refine wpAnyH_read 8 (v := ?va8) rfl (by kernel_rfl) (by kernel_rfl) (by kernel_rfl) (fun _ _ _ h => hQ _ _ _ _ _ h) hS (Or.inl ⟨by rfl, ?ya8⟩) ?ra8
  case ya8 =>
    intro w hSw
    obtain ⟨c0, c1⟩ := XC.out w hSw
    go_simp
    (try with_reducible rfl)
  (try simp only [Act.put, List.setIfInBounds_toArray, List.set_cons_zero, List.set_cons_succ])
  refine wpAnyH_read 9 rfl (by kernel_rfl) (by kernel_rfl) (by kernel_rfl) (fun _ _ _ h => hQ _ _ _ _ _ h) hS (yields_load 24 _ (by rfl) rfl ⟨A, 2, none⟩ (pL un.p) rfl LP.out) ?_
  (try simp only [Act.put, List.setIfInBounds_toArray, List.set_cons_zero, List.set_cons_succ])
  refine wpAnyH_read 10 (v := ?va9) rfl (by kernel_rfl) (by kernel_rfl) (by kernel_rfl) (fun _ _ _ h => hQ _ _ _ _ _ h) hS (Or.inl ⟨by rfl, ?ya9⟩) ?ra9
  case ya9 =>
    intro w hSw
    obtain ⟨c0, c1⟩ := XC.out w hSw
    go_simp
    (try with_reducible rfl)
  (try simp only [Act.put, List.setIfInBounds_toArray, List.set_cons_zero, List.set_cons_succ])
  refine wpAnyH_read 11 rfl (by kernel_rfl) (by kernel_rfl) (by kernel_rfl) (fun _ _ _ h => hQ _ _ _ _ _ h) hS (yields_load 27 _ (by rfl) rfl ⟨A, 12, none⟩ (sL un.s) rfl LS.out) ?_
  (try simp only [Act.put, List.setIfInBounds_toArray, List.set_cons_zero, List.set_cons_succ])
  refine wpAnyH_call 12 rfl (by kernel_rfl) (fun J hJ => ?_)
  rw [if_pos (by rfl)]
  go_simp
  refine (HP.out).mono ?_
  rintro e u1 ⟨rfl, sv', pl⟩
  have s1 : Only [r] w1 u1 := hS.trans2 pl.only (fun y hy => .inl (by simpa [ownOf, Value.ownBlock] using hy))
  have PL := hid pl
  clear pl
  refine hJ.out _ _ s1 ?_
  clear hJ J
  (try simp only [Act.put, List.setIfInBounds_toArray, List.set_cons_zero, List.set_cons_succ])
  refine wpAnyH_done (by kernel_rfl) ?_ _
  obtain ⟨L, hL⟩ : ∃ L, L = (putH un (ex7 b n).1 []).2 := ⟨_, rfl⟩
  rw [← hL] at PL
  have LL : L.length ≤ 200000 := by rw [hL]; exact putH_len _ _
  clear hL HP
  have S1 := hid (show Only [] w u1 from O1.out.trans2 s1 (fun y hy => .inr (by rw [List.mem_singleton.1 hy, RW.out]; exact Nat.le_refl _)))
  clear s1
  go_wp2_with fail
  refine (bytes_any r sv' L u1 PL.out.wr).mono ?_
  rintro e w3 ⟨rfl, o3⟩
  have sz : (pack L).size ≤ 30000 := by rw [size_pack]; omega
  obtain ⟨c, w4, hconv, hbuf, hob⟩ := conv_bufE (pack L) w3
  obtain ⟨s, hs⟩ : ∃ s, s = pack L := ⟨_, rfl⟩
  rw [← hs] at hconv hbuf sz ⊢
  obtain ⟨B, hB⟩ : ∃ B, B = w3.heap.size := ⟨_, rfl⟩
  rw [← hB] at hconv hbuf
  have S4 := hid (show Only [] w w4 from (S1.out.trans o3).trans hob)
  have SB := hid (show w.heap.size ≤ B from by rw [hB]; exact (S1.out.trans o3).size)
  have BB := hid hbuf
  have SZ := hid sz
  clear hs hbuf hob o3 hB sz LL PL S1
  go_wp2_with fail
  exact HR.out B c s.data.toList w4 _ _ _ _ _ _ _ _ _ _ _ _ _ _ _ _ _ _ BB.out (by simpa using SZ.out) SB.out S4.out
end Go.Proofs.YtjjjfmnhdnajkaaGreatDoor

end
section
set_option maxRecDepth 20000
namespace Go.Proofs.YtjjjfmnhdnajkaaGreatDoor
open Go.RowKit
set_option linter.unusedVariables false
set_option linter.unusedSimpArgs false
theorem xor_byte (x : UInt8) (m : Int) : ∃ y : UInt8, bits .xor .u8 (x.toNat : Int) m = (y.toNat : Int) := by
  have h := bits_within .xor .u8 (x.toNat : Int) m
  have h0 : 0 ≤ bits .xor .u8 (x.toNat : Int) m := h.1
  have h1 : bits .xor .u8 (x.toNat : Int) m ≤ 255 := h.2
  refine ⟨UInt8.ofNat (bits .xor .u8 (x.toNat : Int) m).toNat, ?_⟩
  rw [UInt8.toNat_ofNat']
  omega
set_option maxRecDepth 1000000 in
set_option maxHeartbeats 8000000 in
theorem ex_f (rest : Code) (Q : Exit → Act → World → Prop) (i B c : Nat) (il : i < 20) (bs : List UInt8) (w : World) (hb : BufE w B c bs) (bl : bs.length ≤ 30000) (u0 u1 u3 u4 u5 u6 u7 u8 u9 u11 u12 u13 u14 u15 u16 u17 u18 u19 u20 u21 u22 u23 u24 u25 u26 u27 u28 u29 u30 u31 u32 u33 u34 u35 u36 u37 u38 u39 u40 u41 u42 u43 u44 u45 u46 u47 u48 u49 u50 u51 u52 u53 u54 u55 u56 u57 u58 u59 u60 u61 u62 u63 u64 u65 u66 u67 u68 u69 u70 u71 u72 u73 u74 u75 u76 u77 u78 u79 u80 u81 u82 u83 u84 u85 u86 u87 u88 u89 u90 u91 u92 u93 u94 u95 u96 u97 u98 u99 u100 u101 u102 u103 u104 u105 u106 u107 u108 u109 u110 u111 u112 u113 u114 u115 u116 u117 u118 u119 u120 u121 u122 u123 u124 u125 u126 u127 u128 u129 u130 u131 u132 u133 u134 u135 u136 u137 u138 u139 u140 u141 u142 u143 u144 u145 u146 u147 u148 u149 u150 u151 u152 u153 u154 u155 u156 u157 u158 u159 u160 u161 u162 u163 u164 u165 u166 u167 u168 u169 u170 u171 u172 u173 u174 u175 u176 u177 u178 u179 u180 u181 u182 u183 u184 u185 u186 u187 u188 u189 u190 u191 u192 u193 u194 u195 u196 u197 u198 u199 u200 u201 u202 u203 u204 u205 u206 u207 u208 u209 u210 u211 u212 u213 u214 u215 u216 u217 u218 u219 u220 u221 u222 u223 u224 u225 u226 u227 u228 u229 u230 u231 u232 u233 u234 u235 u236 u237 u238 u239 u240 u241 u242 u243 u244 u245 u246 u247 u248 u249 u250 u251 u252 u253 u254 u255 u256 : Value)
    (hr : ∀ (bs' : List UInt8) (w' : World) (v11 v168 v169 v170 v171 v172 v173 v174 v175 v176 v177 v178 v179 v180 v181 v182 v183 v184 v185 v186 v187 v188 v189 : Value), BufE w' B c bs' → bs'.length = bs.length → Only [B] w w' → rest.wp Tryz.prog Q ⟨#[u0, u1, .int .i64 i, u3, u4, u5, u6, u7, u8, u9, .slice (some ⟨B, 0, none⟩) bs.length c, v11, u12, u13, u14, u15, u16, u17, u18, u19, u20, u21, u22, u23, u24, u25, u26, u27, u28, u29, u30, u31, u32, u33, u34, u35, u36, u37, u38, u39, u40, u41, u42, u43, u44, u45, u46, u47, u48, u49, u50, u51, u52, u53, u54, u55, u56, u57, u58, u59, u60, u61, u62, u63, u64, u65, u66, u67, u68, u69, u70, u71, u72, u73, u74, u75, u76, u77, u78, u79, u80, u81, u82, u83, u84, u85, u86, u87, u88, u89, u90, u91, u92, u93, u94, u95, u96, u97, u98, u99, u100, u101, u102, u103, u104, u105, u106, u107, u108, u109, u110, u111, u112, u113, u114, u115, u116, u117, u118, u119, u120, u121, u122, u123, u124, u125, u126, u127, u128, u129, u130, u131, u132, u133, u134, u135, u136, u137, u138, u139, u140, u141, u142, u143, u144, u145, u146, u147, u148, u149, u150, u151, u152, u153, u154, u155, u156, u157, u158, u159, u160, u161, u162, u163, u164, u165, u166, u167, v168, v169, v170, v171, v172, v173, v174, v175, v176, v177, v178, v179, v180, v181, v182, v183, v184, v185, v186, v187, v188, v189, u190, u191, u192, u193, u194, u195, u196, u197, u198, u199, u200, u201, u202, u203, u204, u205, u206, u207, u208, u209, u210, u211, u212, u213, u214, u215, u216, u217, u218, u219, u220, u221, u222, u223, u224, u225, u226, u227, u228, u229, u230, u231, u232, u233, u234, u235, u236, u237, u238, u239, u240, u241, u242, u243, u244, u245, u246, u247, u248, u249, u250, u251, u252, u253, u254, u255, u256], []⟩ w') :
    (endWith 1 (dropSeq 10 exB) rest).wp Tryz.prog Q ⟨#[u0, u1, .int .i64 i, u3, u4, u5, u6, u7, u8, u9, .slice (some ⟨B, 0, none⟩) bs.length c, u11, u12, u13, u14, u15, u16, u17, u18, u19, u20, u21, u22, u23, u24, u25, u26, u27, u28, u29, u30, u31, u32, u33, u34, u35, u36, u37, u38, u39, u40, u41, u42, u43, u44, u45, u46, u47, u48, u49, u50, u51, u52, u53, u54, u55, u56, u57, u58, u59, u60, u61, u62, u63, u64, u65, u66, u67, u68, u69, u70, u71, u72, u73, u74, u75, u76, u77, u78, u79, u80, u81, u82, u83, u84, u85, u86, u87, u88, u89, u90, u91, u92, u93, u94, u95, u96, u97, u98, u99, u100, u101, u102, u103, u104, u105, u106, u107, u108, u109, u110, u111, u112, u113, u114, u115, u116, u117, u118, u119, u120, u121, u122, u123, u124, u125, u126, u127, u128, u129, u130, u131, u132, u133, u134, u135, u136, u137, u138, u139, u140, u141, u142, u143, u144, u145, u146, u147, u148, u149, u150, u151, u152, u153, u154, u155, u156, u157, u158, u159, u160, u161, u162, u163, u164, u165, u166, u167, u168, u169, u170, u171, u172, u173, u174, u175, u176, u177, u178, u179, u180, u181, u182, u183, u184, u185, u186, u187, u188, u189, u190, u191, u192, u193, u194, u195, u196, u197, u198, u199, u200, u201, u202, u203, u204, u205, u206, u207, u208, u209, u210, u211, u212, u213, u214, u215, u216, u217, u218, u219, u220, u221, u222, u223, u224, u225, u226, u227, u228, u229, u230, u231, u232, u233, u234, u235, u236, u237, u238, u239, u240, u241, u242, u243, u244, u245, u246, u247, u248, u249, u250, u251, u252, u253, u254, u255, u256], []⟩ w := by
  conv => arg 2; whnf; arg 2; whnf
  have HR := hid hr
  clear hr
  have BB := hid hb
  obtain ⟨j, hj⟩ : ∃ j : Nat, (3 : Int) * (i : Int) = (j : Int) := ⟨3 * i, by omega⟩
  have jb : (j : Int) < 60 := by omega
  have j0 : (0 : Int) ≤ (j : Int) := by omega
  have lb : (bs.length : Int) ≤ 30000 := by omega
  have l0 : (0 : Int) ≤ (bs.length : Int) := by omega
  clear hb
  by_cases h : j < 8 * bs.length
  · have h1 : (j : Int) < 8 * (bs.length : Int) := by omega
    obtain ⟨q, hq⟩ : ∃ q : Nat, (j : Int) / 8 = (q : Int) := ⟨j / 8, by omega⟩
    obtain ⟨r, hr'⟩ : ∃ r : Nat, (j : Int) % 8 = (r : Int) := ⟨j % 8, by omega⟩
    have ql : q < bs.length := by omega
    have q1 : (q : Int) < (bs.length : Int) := by omega
    have q0 : (0 : Int) ≤ (q : Int) := by omega
    have r8 : r < 8 := by omega
    obtain ⟨x, hx⟩ : ∃ x, bs[q]? = some x := ⟨_, List.getElem?_eq_getElem ql⟩
    have cq := BB.out.cell q x hx
    have fq := (BB.out.room q (by have := BB.out.le; omega)).2
    have QL := hid ql
    clear hx ql h il bl
    obtain rfl | rfl | rfl | rfl | rfl | rfl | rfl | rfl : r = 0 ∨ r = 1 ∨ r = 2 ∨ r = 3 ∨ r = 4 ∨ r = 5 ∨ r = 6 ∨ r = 7 := by omega
    · clear r8
      obtain ⟨y, hy⟩ := xor_byte x 128
      have hr2 : (j : Int) % 8 = 0 := hr'
      clear hr'
      have NB := hid (BB.out.set q QL.out y)
      go_wp2_with fail
      exact HR.out (bs.set q y) _ _ _ _ _ _ _ _ _ _ _ _ _ _ _ _ _ _ _ _ _ _ _ _ NB.out (by simp) ((Only.refl _ _).setCell (.inl (by simp)) _)
    · clear r8
      obtain ⟨y, hy⟩ := xor_byte x 64
      have hr2 : (j : Int) % 8 = 1 := hr'
      clear hr'
      have NB := hid (BB.out.set q QL.out y)
      go_wp2_with fail
      exact HR.out (bs.set q y) _ _ _ _ _ _ _ _ _ _ _ _ _ _ _ _ _ _ _ _ _ _ _ _ NB.out (by simp) ((Only.refl _ _).setCell (.inl (by simp)) _)
    · clear r8
      obtain ⟨y, hy⟩ := xor_byte x 32
      have hr2 : (j : Int) % 8 = 2 := hr'
      clear hr'
      have NB := hid (BB.out.set q QL.out y)
      go_wp2_with fail
      exact HR.out (bs.set q y) _ _ _ _ _ _ _ _ _ _ _ _ _ _ _ _ _ _ _ _ _ _ _ _ NB.out (by simp) ((Only.refl _ _).setCell (.inl (by simp)) _)
    · clear r8
      obtain ⟨y, hy⟩ := xor_byte x 16
      have hr2 : (j : Int) % 8 = 3 := hr'
      clear hr'
      have NB := hid (BB.out.set q QL.out y)
      go_wp2_with fail
      exact HR.out (bs.set q y) _ _ _ _ _ _ _ _ _ _ _ _ _ _ _ _ _ _ _ _ _ _ _ _ NB.out (by simp) ((Only.refl _ _).setCell (.inl (by simp)) _)
    · clear r8
      obtain ⟨y, hy⟩ := xor_byte x 8
      have hr2 : (j : Int) % 8 = 4 := hr'
      clear hr'
      have NB := hid (BB.out.set q QL.out y)
      go_wp2_with fail
      exact HR.out (bs.set q y) _ _ _ _ _ _ _ _ _ _ _ _ _ _ _ _ _ _ _ _ _ _ _ _ NB.out (by simp) ((Only.refl _ _).setCell (.inl (by simp)) _)
    · clear r8
      obtain ⟨y, hy⟩ := xor_byte x 4
      have hr2 : (j : Int) % 8 = 5 := hr'
      clear hr'
      have NB := hid (BB.out.set q QL.out y)
      go_wp2_with fail
      exact HR.out (bs.set q y) _ _ _ _ _ _ _ _ _ _ _ _ _ _ _ _ _ _ _ _ _ _ _ _ NB.out (by simp) ((Only.refl _ _).setCell (.inl (by simp)) _)
    · clear r8
      obtain ⟨y, hy⟩ := xor_byte x 2
      have hr2 : (j : Int) % 8 = 6 := hr'
      clear hr'
      have NB := hid (BB.out.set q QL.out y)
      go_wp2_with fail
      exact HR.out (bs.set q y) _ _ _ _ _ _ _ _ _ _ _ _ _ _ _ _ _ _ _ _ _ _ _ _ NB.out (by simp) ((Only.refl _ _).setCell (.inl (by simp)) _)
    · clear r8
      obtain ⟨y, hy⟩ := xor_byte x 1
      have hr2 : (j : Int) % 8 = 7 := hr'
      clear hr'
      have NB := hid (BB.out.set q QL.out y)
      go_wp2_with fail
      exact HR.out (bs.set q y) _ _ _ _ _ _ _ _ _ _ _ _ _ _ _ _ _ _ _ _ _ _ _ _ NB.out (by simp) ((Only.refl _ _).setCell (.inl (by simp)) _)
  · have h1 : ¬ (j : Int) < 8 * (bs.length : Int) := by omega
    clear h il bl
    go_wp2_with fail
    exact HR.out bs w _ _ _ _ _ _ _ _ _ _ _ _ _ _ _ _ _ _ _ _ _ _ _ BB.out rfl (Only.refl _ _)
end Go.Proofs.YtjjjfmnhdnajkaaGreatDoor

end
section
set_option maxRecDepth 20000
namespace Go.Proofs.YtjjjfmnhdnajkaaGreatDoor
open Go.RowKit
set_option linter.unusedVariables false
set_option linter.unusedSimpArgs false
section
variable {α : Type} {C : α → List Value} {n : Nat}
theorem holdsG_lit (K : CellsN C n) (w : World) (T : TypeId) (l : List α) (hl : l.length ≤ maxLen) : HoldsG C n (w.alloc (.cells (cellsG C l).toArray T)) (.slice (some ⟨w.heap.size, 0, none⟩) l.length l.length) l :=
  ⟨_, _, rfl, Nat.le_refl _, hl, .inr ⟨_, 0, rfl, fun j x hx k v hv => by rw [Nat.zero_add, World.cell?_alloc_new]; simpa using cellsG_at K l j x hx k v hv⟩⟩
end
/-- A struct is loaded where a guard lets it. -/
theorem load_atG {P : Program} {w : World} {ops : Array Oper} {rest : List Oper} {o : Oper} {a : Act} {Q : Exit → Act → World → Prop} (hg : Region.wanted o (yielded ops a.tmps) = true) (t : TypeId) (x : Operand) (ho : o.op = .load t x) (p : Addr) (cs : List Value)
    (hx : a.eval x = .pointer (some p)) (hl : (Instr.loadAt t (.pointer (some p))).run P w = .ok (.agg cs.toArray) w)
    (h : wpList P ops Q rest (a.put o.dst (.agg cs.toArray)) w) : wpList P ops Q (o :: rest) a w := by
  refine wpList_step fun K hK => ?_
  rw [if_pos hg]
  unfold Oper.wp execOp
  simp only [ho, hx]
  simp [hl, Result.andThen]
  exact hK _ _ (by simpa using h)
theorem wp_buildSliceG {P : Program} {w w' : World} {ops : Array Oper} {rest : List Oper} {o : Oper} {a : Act} {Q : Exit → Act → World → Prop} (hg : Region.wanted o (yielded ops a.tmps) = true) (t : TypeId) (n : Nat) (parts : Array (Nat × Operand)) (ho : o.op = .buildSlice t n parts)
    (vs : Array (Nat × Value)) (hx : parts.map (fun (i, x) => (i, a.eval x)) = vs) (v : Value) (hr : (Instr.buildSlice t n vs).run P w = .ok v w')
    (h : wpList P ops Q rest (a.put o.dst v) w') : wpList P ops Q (o :: rest) a w := by
  refine wpList_step fun K hK => ?_
  rw [if_pos hg]
  unfold Oper.wp execOp
  simp only [ho]
  simp [hx, hr, Result.andThen]
  exact hK _ _ (by simpa using h)
theorem run_pps1 (x : PV) (w : World) : (Instr.buildSlice 47 1 #[(0, .agg (pL x).toArray)]).run Tryz.prog w = .ok (.slice (some ⟨w.heap.size, 0, none⟩) 1 1) (w.alloc (.cells (cellsG pCl [x]).toArray 24)) := by kernel_rfl
theorem run_sps1 (x : SV) (w : World) : (Instr.buildSlice 48 1 #[(0, .agg (sL x).toArray)]).run Tryz.prog w = .ok (.slice (some ⟨w.heap.size, 0, none⟩) 1 1) (w.alloc (.cells (cellsG sCl [x]).toArray 27)) := by kernel_rfl
theorem holdsG_none {α : Type} {C : α → List Value} {n : Nat} (w : World) : HoldsG C n w (.slice none 0 0) [] := ⟨none, 0, rfl, Nat.le_refl _, Nat.zero_le _, .inl rfl⟩
theorem BufE.str {w : World} {g c : Nat} {bs : List UInt8} (h : BufE w g c bs) : (convert 43 9 (.slice (some ⟨g, 0, none⟩) bs.length c)).run Tryz.prog w = .ok (.string ⟨bs.toArray⟩) w :=
  run_convert_bytes_back (P := Tryz.prog) w 43 9 5 ⟨g, 0, none⟩ c bs und_bytes und_u8 und_str (fun j hj => by rw [add_off, Nat.zero_add]; exact h.cell j _ (List.getElem?_eq_getElem hj))
set_option maxRecDepth 1000000 in
set_option maxHeartbeats 8000000 in
theorem ex_g (Q : Exit → Act → World → Prop) (i A B c : Nat) (il : i < 20) (bs : List UInt8) (un : UN) (w : World) (hVr : Vars w) (hb : BufE w B c bs) (bl : bs.length ≤ 30000) (hU : Blk w A 30 (uL un).toArray) (r0 : 0 ≤ un.ref) (u0 u1 u3 u4 u6 u7 u8 u9 u11 u12 u13 u14 u15 u16 u17 u18 u19 u20 u21 u22 u23 u24 u25 u26 u27 u28 u29 u30 u31 u32 u33 u34 u35 u36 u37 u38 u39 u40 u41 u42 u43 u44 u45 u46 u47 u48 u49 u50 u51 u52 u53 u54 u55 u56 u57 u58 u59 u60 u61 u62 u63 u64 u65 u66 u67 u68 u69 u70 u71 u72 u73 u74 u75 u76 u77 u78 u79 u80 u81 u82 u83 u84 u85 u86 u87 u88 u89 u90 u91 u92 u93 u94 u95 u96 u97 u98 u99 u100 u101 u102 u103 u104 u105 u106 u107 u108 u109 u110 u111 u112 u113 u114 u115 u116 u117 u118 u119 u120 u121 u122 u123 u124 u125 u126 u127 u128 u129 u130 u131 u132 u133 u134 u135 u136 u137 u138 u139 u140 u141 u142 u143 u144 u145 u146 u147 u148 u149 u150 u151 u152 u153 u154 u155 u156 u157 u158 u159 u160 u161 u162 u163 u164 u165 u166 u167 u168 u169 u170 u171 u172 u173 u174 u175 u176 u177 u178 u179 u180 u181 u182 u183 u184 u185 u186 u187 u188 u189 u190 u191 u192 u193 u194 u195 u196 u197 u198 u199 u200 u201 u202 u203 u204 u205 u206 u207 u208 u209 u210 u211 u212 u213 u214 u215 u216 u217 u218 u219 u220 u221 u222 u223 u224 u225 u226 u227 u228 u229 u230 u231 u232 u233 u234 u235 u236 u237 u238 u239 u240 u241 u242 u243 u244 u245 u246 u247 u248 u249 u250 u251 u252 u253 u254 u255 u256 : Value)
    (hr : ∀ (w' : World) (v190 v191 v192 v193 v194 v195 v196 v197 v198 v199 v200 v201 v202 v203 v204 v205 v206 v207 v208 v209 v210 v211 v212 v213 v214 v215 v216 v217 v218 : Value), Only [] w w' → Q .normal ⟨#[u0, u1, .int .i64 i, u3, u4, .pointer (some ⟨A, 0, none⟩), u6, u7, u8, u9, .slice (some ⟨B, 0, none⟩) bs.length c, u11, u12, u13, u14, u15, u16, u17, u18, u19, u20, u21, u22, u23, u24, u25, u26, u27, u28, u29, u30, u31, u32, u33, u34, u35, u36, u37, u38, u39, u40, u41, u42, u43, u44, u45, u46, u47, u48, u49, u50, u51, u52, u53, u54, u55, u56, u57, u58, u59, u60, u61, u62, u63, u64, u65, u66, u67, u68, u69, u70, u71, u72, u73, u74, u75, u76, u77, u78, u79, u80, u81, u82, u83, u84, u85, u86, u87, u88, u89, u90, u91, u92, u93, u94, u95, u96, u97, u98, u99, u100, u101, u102, u103, u104, u105, u106, u107, u108, u109, u110, u111, u112, u113, u114, u115, u116, u117, u118, u119, u120, u121, u122, u123, u124, u125, u126, u127, u128, u129, u130, u131, u132, u133, u134, u135, u136, u137, u138, u139, u140, u141, u142, u143, u144, u145, u146, u147, u148, u149, u150, u151, u152, u153, u154, u155, u156, u157, u158, u159, u160, u161, u162, u163, u164, u165, u166, u167, u168, u169, u170, u171, u172, u173, u174, u175, u176, u177, u178, u179, u180, u181, u182, u183, u184, u185, u186, u187, u188, u189, v190, v191, v192, v193, v194, v195, v196, v197, v198, v199, v200, v201, v202, v203, v204, v205, v206, v207, v208, v209, v210, v211, v212, v213, v214, v215, v216, v217, v218, u219, u220, u221, u222, u223, u224, u225, u226, u227, u228, u229, u230, u231, u232, u233, u234, u235, u236, u237, u238, u239, u240, u241, u242, u243, u244, u245, u246, u247, u248, u249, u250, u251, u252, u253, u254, u255, u256], []⟩ w') :
    (dropSeq 11 exB).wp Tryz.prog Q ⟨#[u0, u1, .int .i64 i, u3, u4, .pointer (some ⟨A, 0, none⟩), u6, u7, u8, u9, .slice (some ⟨B, 0, none⟩) bs.length c, u11, u12, u13, u14, u15, u16, u17, u18, u19, u20, u21, u22, u23, u24, u25, u26, u27, u28, u29, u30, u31, u32, u33, u34, u35, u36, u37, u38, u39, u40, u41, u42, u43, u44, u45, u46, u47, u48, u49, u50, u51, u52, u53, u54, u55, u56, u57, u58, u59, u60, u61, u62, u63, u64, u65, u66, u67, u68, u69, u70, u71, u72, u73, u74, u75, u76, u77, u78, u79, u80, u81, u82, u83, u84, u85, u86, u87, u88, u89, u90, u91, u92, u93, u94, u95, u96, u97, u98, u99, u100, u101, u102, u103, u104, u105, u106, u107, u108, u109, u110, u111, u112, u113, u114, u115, u116, u117, u118, u119, u120, u121, u122, u123, u124, u125, u126, u127, u128, u129, u130, u131, u132, u133, u134, u135, u136, u137, u138, u139, u140, u141, u142, u143, u144, u145, u146, u147, u148, u149, u150, u151, u152, u153, u154, u155, u156, u157, u158, u159, u160, u161, u162, u163, u164, u165, u166, u167, u168, u169, u170, u171, u172, u173, u174, u175, u176, u177, u178, u179, u180, u181, u182, u183, u184, u185, u186, u187, u188, u189, u190, u191, u192, u193, u194, u195, u196, u197, u198, u199, u200, u201, u202, u203, u204, u205, u206, u207, u208, u209, u210, u211, u212, u213, u214, u215, u216, u217, u218, u219, u220, u221, u222, u223, u224, u225, u226, u227, u228, u229, u230, u231, u232, u233, u234, u235, u236, u237, u238, u239, u240, u241, u242, u243, u244, u245, u246, u247, u248, u249, u250, u251, u252, u253, u254, u255, u256], []⟩ w := by
  conv => arg 2; whnf
  have HR := hid hr
  clear hr
  have i0 : (0 : Int) ≤ (i : Int) := by omega
  have ib : (i : Int) < 20 := by omega
  obtain ⟨m, hm⟩ : ∃ m : Nat, (i : Int) % 5 = (m : Int) := ⟨i % 5, by omega⟩
  have m0 : (0 : Int) ≤ (m : Int) := by omega
  have m1 : (m : Int) < 5 := by omega
  have BB := hid hb
  have VV := hid hVr
  have UU := hid hU
  have R0 := hid r0
  have SZ := hid (show (⟨bs.toArray⟩ : ByteArray).size ≤ maxLen from by show bs.toArray.size ≤ maxLen; simp [maxLen]; omega)
  obtain ⟨s, hs⟩ : ∃ s : ByteArray, s = ⟨bs.toArray⟩ := ⟨_, rfl⟩
  have CS := hid (fun w' (o : Only [] w w') => (BB.out.keep o).str)
  rw [← hs] at CS SZ
  have c0 := hU.cell (i := 0) (v := .int .u8 un.ref) rfl
  have c1 := hU.cell (i := 1) (v := .bool un.idr) rfl
  have cv := CS.out w (Only.refl [] w)
  obtain ⟨W1, hW1⟩ : ∃ W, W = w.alloc (.cells (cellsG pCl [un.p]).toArray 24) := ⟨_, rfl⟩
  obtain ⟨W2, hW2⟩ : ∃ W, W = W1.alloc (.cells (cellsG sCl [un.s]).toArray 27) := ⟨_, rfl⟩
  have r1 := run_pps1 un.p w
  have r2 := run_sps1 un.s W1
  have h1 := holdsG_lit pCl_ok w 24 [un.p] (by simp [maxLen])
  have h2 := holdsG_lit sCl_ok W1 27 [un.s] (by simp [maxLen])
  rw [← hW1] at r1 h1
  rw [← hW2] at r2 h2
  have o1 : Only [] w W1 := hW1 ▸ ((Only.refl [] w).alloc _)
  have o2 : Only [] W1 W2 := hW2 ▸ ((Only.refl [] W1).alloc _)
  have R1 := hid r1
  have R2 := hid r2
  have H1 := hid (h1.only0 o2)
  have H2 := hid h2
  have O1 := hid o1
  have O2 := hid (o1.trans o2)
  clear hb hVr hU r0 il bl hs hW1 hW2 r1 r2 h1 h2 o1 o2
  go_wp2_with (first
    | (refine load_atA rfl 24 _ rfl ⟨A, 2, none⟩ (pL un.p) rfl (ho_ppsU UU.out) ?_; simp only [Act.put, List.setIfInBounds_toArray, List.set_cons_zero, List.set_cons_succ])
    | (refine wp_buildSlice rfl 47 1 #[(0, .tmp 197)] rfl #[(0, .agg (pL un.p).toArray)] (by kernel_rfl) _ R1.out ?_; simp only [Act.put, List.setIfInBounds_toArray, List.set_cons_zero, List.set_cons_succ])
    | (refine load_atA rfl 27 _ rfl ⟨A, 12, none⟩ (sL un.s) rfl (ho_spsU (UU.out.only O1.out (by simp))) ?_; simp only [Act.put, List.setIfInBounds_toArray, List.set_cons_zero, List.set_cons_succ])
    | (refine wp_buildSlice rfl 48 1 #[(0, .tmp 200)] rfl #[(0, .agg (sL un.s).toArray)] (by kernel_rfl) _ R2.out ?_; simp only [Act.put, List.setIfInBounds_toArray, List.set_cons_zero, List.set_cons_succ]))
  refine (hreads_any s 0 un.ref un.idr _ _ [un.p] [un.s] W2 (VV.out.only0 O2.out) SZ.out (by decide) (by decide) R0.out H1.out H2.out).mono ?_
  rintro e w3 ⟨rfl, o3⟩
  have O3 := hid (O2.out.trans o3)
  have cv3 := CS.out w3 O3.out
  have UB := UU.out.only O3.out (by simp)
  have d1 := UB.cell (i := 1) (v := .bool un.idr) rfl
  have UB3 := hid UB
  obtain ⟨W3, hW3⟩ : ∃ W, W = w3.alloc (.cells (cellsG pCl [un.p]).toArray 24) := ⟨_, rfl⟩
  have r3 := run_pps1 un.p w3
  have h3 := holdsG_lit pCl_ok w3 24 [un.p] (by simp [maxLen])
  rw [← hW3] at r3 h3
  have R3 := hid r3
  have H3 := hid h3
  have O4 := hid (show Only [] w W3 from O3.out.trans (hW3 ▸ ((Only.refl [] w3).alloc _)))
  clear UB o3 hW3 r3 h3 c0 c1 cv R1 R2
  go_wp2_with (first
    | (refine load_atG (by kernel_rfl) 24 _ rfl ⟨A, 2, none⟩ (pL un.p) rfl (ho_ppsU UB3.out) ?_; simp only [Act.put, List.setIfInBounds_toArray, List.set_cons_zero, List.set_cons_succ])
    | (refine wp_buildSliceG (by kernel_rfl) 47 1 #[(0, .tmp 214)] rfl #[(0, .agg (pL un.p).toArray)] (by kernel_rfl) _ R3.out ?_; simp only [Act.put, List.setIfInBounds_toArray, List.set_cons_zero, List.set_cons_succ]))
  refine (hreads_any s i m un.idr _ _ [un.p] [] W3 (VV.out.only0 O4.out) SZ.out (by omega) (by omega) m0 H3.out (holdsG_none _)).mono ?_
  rintro e w5 ⟨rfl, o5⟩
  have O5 := hid (O4.out.trans o5)
  clear o5
  go_wp2_with fail
  exact HR.out _ _ _ _ _ _ _ _ _ _ _ _ _ _ _ _ _ _ _ _ _ _ _ _ _ _ _ _ _ _ O5.out
end Go.Proofs.YtjjjfmnhdnajkaaGreatDoor

end
section
set_option maxRecDepth 20000
namespace Go.Proofs.YtjjjfmnhdnajkaaGreatDoor
open Go.RowKit
set_option linter.unusedVariables false
set_option linter.unusedSimpArgs false
set_option maxRecDepth 1000000 in
set_option maxHeartbeats 8000000 in
theorem ex_body (Q : Exit → Act → World → Prop) (hQ : ∀ c (a : Act) d v w, Q (.panic c) (a.put (some d) v) w → Q (.panic c) a w) (i k : Nat) (il : i < 20) (kl : k < 16) (w : World) (hVr : Vars w) (u0 u1 u5 u6 u7 u8 u9 u10 u11 u12 u13 u14 u15 u16 u17 u18 u19 u20 u21 u22 u23 u24 u25 u26 u27 u28 u29 u30 u31 u32 u33 u34 u35 u36 u37 u38 u39 u40 u41 u42 u43 u44 u45 u46 u47 u48 u49 u50 u51 u52 u53 u54 u55 u56 u57 u58 u59 u60 u61 u62 u63 u64 u65 u66 u67 u68 u69 u70 u71 u72 u73 u74 u75 u76 u77 u78 u79 u80 u81 u82 u83 u84 u85 u86 u87 u88 u89 u90 u91 u92 u93 u94 u95 u96 u97 u98 u99 u100 u101 u102 u103 u104 u105 u106 u107 u108 u109 u110 u111 u112 u113 u114 u115 u116 u117 u118 u119 u120 u121 u122 u123 u124 u125 u126 u127 u128 u129 u130 u131 u132 u133 u134 u135 u136 u137 u138 u139 u140 u141 u142 u143 u144 u145 u146 u147 u148 u149 u150 u151 u152 u153 u154 u155 u156 u157 u158 u159 u160 u161 u162 u163 u164 u165 u166 u167 u168 u169 u170 u171 u172 u173 u174 u175 u176 u177 u178 u179 u180 u181 u182 u183 u184 u185 u186 u187 u188 u189 u190 u191 u192 u193 u194 u195 u196 u197 u198 u199 u200 u201 u202 u203 u204 u205 u206 u207 u208 u209 u210 u211 u212 u213 u214 u215 u216 u217 u218 u219 u220 u221 u222 u223 u224 u225 u226 u227 u228 u229 u230 u231 u232 u233 u234 u235 u236 u237 u238 u239 u240 u241 u242 u243 u244 u245 u246 u247 u248 u249 u250 u251 u252 u253 u254 u255 u256 : Value)
    (hr : ∀ (w' : World) (v0 v5 v6 v7 v8 v9 v10 v11 v33 v34 v35 v36 v37 v38 v39 v40 v41 v42 v43 v44 v45 v46 v47 v48 v49 v50 v51 v52 v53 v54 v55 v56 v57 v58 v59 v60 v61 v62 v63 v64 v65 v66 v67 v68 v69 v70 v71 v72 v73 v74 v75 v76 v77 v78 v79 v80 v81 v82 v83 v84 v85 v86 v87 v88 v89 v90 v91 v92 v93 v94 v95 v96 v97 v98 v99 v100 v101 v102 v103 v104 v105 v106 v107 v108 v109 v110 v111 v112 v113 v114 v115 v116 v117 v118 v119 v120 v121 v122 v123 v124 v125 v126 v127 v128 v129 v130 v131 v132 v133 v134 v135 v136 v137 v138 v139 v140 v141 v142 v143 v144 v145 v146 v147 v148 v149 v150 v151 v152 v153 v154 v155 v156 v157 v158 v159 v160 v161 v162 v163 v164 v165 v166 v167 v168 v169 v170 v171 v172 v173 v174 v175 v176 v177 v178 v179 v180 v181 v182 v183 v184 v185 v186 v187 v188 v189 v190 v191 v192 v193 v194 v195 v196 v197 v198 v199 v200 v201 v202 v203 v204 v205 v206 v207 v208 v209 v210 v211 v212 v213 v214 v215 v216 v217 v218 : Value), Only [] w w' → Q .normal ⟨#[v0, u1, .int .i64 i, .int .i64 (hn i), .int .i64 k, v5, v6, v7, v8, v9, v10, v11, u12, u13, u14, u15, u16, u17, u18, u19, u20, u21, u22, u23, u24, u25, u26, u27, u28, u29, u30, u31, u32, v33, v34, v35, v36, v37, v38, v39, v40, v41, v42, v43, v44, v45, v46, v47, v48, v49, v50, v51, v52, v53, v54, v55, v56, v57, v58, v59, v60, v61, v62, v63, v64, v65, v66, v67, v68, v69, v70, v71, v72, v73, v74, v75, v76, v77, v78, v79, v80, v81, v82, v83, v84, v85, v86, v87, v88, v89, v90, v91, v92, v93, v94, v95, v96, v97, v98, v99, v100, v101, v102, v103, v104, v105, v106, v107, v108, v109, v110, v111, v112, v113, v114, v115, v116, v117, v118, v119, v120, v121, v122, v123, v124, v125, v126, v127, v128, v129, v130, v131, v132, v133, v134, v135, v136, v137, v138, v139, v140, v141, v142, v143, v144, v145, v146, v147, v148, v149, v150, v151, v152, v153, v154, v155, v156, v157, v158, v159, v160, v161, v162, v163, v164, v165, v166, v167, v168, v169, v170, v171, v172, v173, v174, v175, v176, v177, v178, v179, v180, v181, v182, v183, v184, v185, v186, v187, v188, v189, v190, v191, v192, v193, v194, v195, v196, v197, v198, v199, v200, v201, v202, v203, v204, v205, v206, v207, v208, v209, v210, v211, v212, v213, v214, v215, v216, v217, v218, u219, u220, u221, u222, u223, u224, u225, u226, u227, u228, u229, u230, u231, u232, u233, u234, u235, u236, u237, u238, u239, u240, u241, u242, u243, u244, u245, u246, u247, u248, u249, u250, u251, u252, u253, u254, u255, u256], []⟩ w') :
    exB.wp Tryz.prog Q ⟨#[u0, u1, .int .i64 i, .int .i64 (hn i), .int .i64 k, u5, u6, u7, u8, u9, u10, u11, u12, u13, u14, u15, u16, u17, u18, u19, u20, u21, u22, u23, u24, u25, u26, u27, u28, u29, u30, u31, u32, u33, u34, u35, u36, u37, u38, u39, u40, u41, u42, u43, u44, u45, u46, u47, u48, u49, u50, u51, u52, u53, u54, u55, u56, u57, u58, u59, u60, u61, u62, u63, u64, u65, u66, u67, u68, u69, u70, u71, u72, u73, u74, u75, u76, u77, u78, u79, u80, u81, u82, u83, u84, u85, u86, u87, u88, u89, u90, u91, u92, u93, u94, u95, u96, u97, u98, u99, u100, u101, u102, u103, u104, u105, u106, u107, u108, u109, u110, u111, u112, u113, u114, u115, u116, u117, u118, u119, u120, u121, u122, u123, u124, u125, u126, u127, u128, u129, u130, u131, u132, u133, u134, u135, u136, u137, u138, u139, u140, u141, u142, u143, u144, u145, u146, u147, u148, u149, u150, u151, u152, u153, u154, u155, u156, u157, u158, u159, u160, u161, u162, u163, u164, u165, u166, u167, u168, u169, u170, u171, u172, u173, u174, u175, u176, u177, u178, u179, u180, u181, u182, u183, u184, u185, u186, u187, u188, u189, u190, u191, u192, u193, u194, u195, u196, u197, u198, u199, u200, u201, u202, u203, u204, u205, u206, u207, u208, u209, u210, u211, u212, u213, u214, u215, u216, u217, u218, u219, u220, u221, u222, u223, u224, u225, u226, u227, u228, u229, u230, u231, u232, u233, u234, u235, u236, u237, u238, u239, u240, u241, u242, u243, u244, u245, u246, u247, u248, u249, u250, u251, u252, u253, u254, u255, u256], []⟩ w := by
  rw [show exB = endWith 2 exB (endWith 2 (dropSeq 2 exB) (endWith 2 (dropSeq 4 exB) (endWith 1 (dropSeq 6 exB) (endWith 3 (dropSeq 7 exB) (endWith 1 (dropSeq 10 exB) (dropSeq 11 exB)))))) from by kernel_rfl]
  refine ex_a _ Q k (by omega) w _ _ _ _ _ _ _ _ _ _ _ _ _ _ _ _ _ _ _ _ _ _ _ _ _ _ _ _ _ _ _ _ _ _ _ _ _ _ _ _ _ _ _ _ _ _ _ _ _ _ _ _ _ _ _ _ _ _ _ _ _ _ _ _ _ _ _ _ _ _ _ _ _ _ _ _ _ _ _ _ _ _ _ _ _ _ _ _ _ _ _ _ _ _ _ _ _ _ _ _ _ _ _ _ _ _ _ _ _ _ _ _ _ _ _ _ _ _ _ _ _ _ _ _ _ _ _ _ _ _ _ _ _ _ _ _ _ _ _ _ _ _ _ _ _ _ _ _ _ _ _ _ _ _ _ _ _ _ _ _ _ _ _ _ _ _ _ _ _ _ _ _ _ _ _ _ _ _ _ _ _ _ _ _ _ _ _ _ _ _ _ _ _ _ _ _ _ _ _ _ _ _ _ _ _ _ _ _ _ _ _ _ _ _ _ _ _ _ _ _ _ _ _ _ _ _ _ _ _ _ _ _ _ _ _ _ _ _ _ _ _ _ _ _ _ _ _ _ _ _ _ _ _ _ _ _ (fun A un w1 v33 v34 v35 v36 v37 v38 v39 v40 v41 v42 v43 v44 v45 v46 v47 v48 v49 v50 v51 hU hB1 al1 o1 => ?_)
  refine ex_b _ Q i A (by omega) un w1 hB1 _ _ _ _ _ _ _ _ _ _ _ _ _ _ _ _ _ _ _ _ _ _ _ _ _ _ _ _ _ _ _ _ _ _ _ _ _ _ _ _ _ _ _ _ _ _ _ _ _ _ _ _ _ _ _ _ _ _ _ _ _ _ _ _ _ _ _ _ _ _ _ _ _ _ _ _ _ _ _ _ _ _ _ _ _ _ _ _ _ _ _ _ _ _ _ _ _ _ _ _ _ _ _ _ _ _ _ _ _ _ _ _ _ _ _ _ _ _ _ _ _ _ _ _ _ _ _ _ _ _ _ _ _ _ _ _ _ _ _ _ _ _ _ _ _ _ _ _ _ _ _ _ _ _ _ _ _ _ _ _ _ _ _ _ _ _ _ _ _ _ _ _ _ _ _ _ _ _ _ _ _ _ _ _ _ _ _ _ _ _ _ _ _ _ _ _ _ _ _ _ _ _ _ _ _ _ _ _ _ _ _ _ _ _ _ _ _ _ _ _ _ _ _ _ _ _ _ _ _ _ _ _ _ _ _ _ _ _ _ _ _ _ _ _ _ _ _ _ _ _ _ _ _ _ _ (fun B C b w2 v52 v53 v54 v55 v56 v57 v58 v59 v60 v61 v62 v63 v64 v65 v66 v67 v68 v69 v70 v71 v72 hB2 cl2 o2 => ?_)
  have hA2 := hB1.only o2 (by simp)
  have aC : A ≠ C := by have := hB1.lt; omega
  have n01 := hn_le i
  refine ex_c _ Q C (hn i) b w2 hB2 _ _ _ _ _ _ _ _ _ _ _ _ _ _ _ _ _ _ _ _ _ _ _ _ _ _ _ _ _ _ _ _ _ _ _ _ _ _ _ _ _ _ _ _ _ _ _ _ _ _ _ _ _ _ _ _ _ _ _ _ _ _ _ _ _ _ _ _ _ _ _ _ _ _ _ _ _ _ _ _ _ _ _ _ _ _ _ _ _ _ _ _ _ _ _ _ _ _ _ _ _ _ _ _ _ _ _ _ _ _ _ _ _ _ _ _ _ _ _ _ _ _ _ _ _ _ _ _ _ _ _ _ _ _ _ _ _ _ _ _ _ _ _ _ _ _ _ _ _ _ _ _ _ _ _ _ _ _ _ _ _ _ _ _ _ _ _ _ _ _ _ _ _ _ _ _ _ _ _ _ _ _ _ _ _ _ _ _ _ _ _ _ _ _ _ _ _ _ _ _ _ _ _ _ _ _ _ _ _ _ _ _ _ _ _ _ _ _ _ _ _ _ _ _ _ _ _ _ _ _ _ _ _ _ _ _ _ _ _ _ _ _ _ _ _ _ _ _ _ _ _ _ _ _ _ (fun M K w3 v73 v74 v75 v76 v77 v78 v79 v80 v81 v82 v83 v84 v85 v86 v87 v88 v89 v90 v91 v92 v93 v94 v95 v96 v97 v98 v99 v100 v101 v102 v103 v104 v105 v106 v107 v108 v109 v110 v111 v112 v113 v114 v115 v116 v117 v118 v119 v120 v121 v122 v123 v124 v125 v126 v127 v128 v129 v130 v131 v132 v133 v134 v135 v136 v137 hE o3 => ?_)
  have hA3 := hA2.only o3 (by simpa using aC)
  have O3 : Only [] w w3 := (o1.trans o2).trans2 o3 (fun y hy => .inr (by rw [List.mem_singleton.1 hy]; exact Nat.le_trans o1.size cl2))
  refine ex_d _ Q hQ A C (hn i) b M K un w3 (hVr.only0 O3) hE hA3 hU.r0 n01.1 n01.2 _ _ _ _ _ _ _ _ _ _ _ _ _ _ _ _ _ _ _ _ _ _ _ _ _ _ _ _ _ _ _ _ _ _ _ _ _ _ _ _ _ _ _ _ _ _ _ _ _ _ _ _ _ _ _ _ _ _ _ _ _ _ _ _ _ _ _ _ _ _ _ _ _ _ _ _ _ _ _ _ _ _ _ _ _ _ _ _ _ _ _ _ _ _ _ _ _ _ _ _ _ _ _ _ _ _ _ _ _ _ _ _ _ _ _ _ _ _ _ _ _ _ _ _ _ _ _ _ _ _ _ _ _ _ _ _ _ _ _ _ _ _ _ _ _ _ _ _ _ _ _ _ _ _ _ _ _ _ _ _ _ _ _ _ _ _ _ _ _ _ _ _ _ _ _ _ _ _ _ _ _ _ _ _ _ _ _ _ _ _ _ _ _ _ _ _ _ _ _ _ _ _ _ _ _ _ _ _ _ _ _ _ _ _ _ _ _ _ _ _ _ _ _ _ _ _ _ _ _ _ _ _ _ _ _ _ _ _ _ _ _ _ _ _ _ _ _ _ _ _ _ _ _ _ _ (fun w4 v0 v8 v138 v139 v140 v141 v142 v143 v144 v145 v146 v147 v148 v149 v150 o4 => ?_)
  refine ex_e _ Q hQ A C (hn i) b M K un w4 (hVr.only0 (O3.trans o4)) (hE.only o4) (hA3.only o4 (by simp)) hU.r0 n01.1 n01.2 _ _ _ _ _ _ _ _ _ _ _ _ _ _ _ _ _ _ _ _ _ _ _ _ _ _ _ _ _ _ _ _ _ _ _ _ _ _ _ _ _ _ _ _ _ _ _ _ _ _ _ _ _ _ _ _ _ _ _ _ _ _ _ _ _ _ _ _ _ _ _ _ _ _ _ _ _ _ _ _ _ _ _ _ _ _ _ _ _ _ _ _ _ _ _ _ _ _ _ _ _ _ _ _ _ _ _ _ _ _ _ _ _ _ _ _ _ _ _ _ _ _ _ _ _ _ _ _ _ _ _ _ _ _ _ _ _ _ _ _ _ _ _ _ _ _ _ _ _ _ _ _ _ _ _ _ _ _ _ _ _ _ _ _ _ _ _ _ _ _ _ _ _ _ _ _ _ _ _ _ _ _ _ _ _ _ _ _ _ _ _ _ _ _ _ _ _ _ _ _ _ _ _ _ _ _ _ _ _ _ _ _ _ _ _ _ _ _ _ _ _ _ _ _ _ _ _ _ _ _ _ _ _ _ _ _ _ _ _ _ _ _ _ _ _ _ _ _ _ _ _ _ _ _ _ (fun G c bs w5 v9 v151 v152 v153 v154 v155 v156 v157 v158 v159 v160 v161 v162 v163 v164 v165 v166 v167 hG lG gG o5 => ?_)
  have hA5 := (hA3.only o4 (by simp)).only o5 (by simp)
  have O5 : Only [] w w5 := (O3.trans o4).trans o5
  have aG : A ≠ G := by have := (hA3.only o4 (by simp)).lt; omega
  refine ex_f _ Q i G c il bs w5 hG lG _ _ _ _ _ _ _ _ _ _ _ _ _ _ _ _ _ _ _ _ _ _ _ _ _ _ _ _ _ _ _ _ _ _ _ _ _ _ _ _ _ _ _ _ _ _ _ _ _ _ _ _ _ _ _ _ _ _ _ _ _ _ _ _ _ _ _ _ _ _ _ _ _ _ _ _ _ _ _ _ _ _ _ _ _ _ _ _ _ _ _ _ _ _ _ _ _ _ _ _ _ _ _ _ _ _ _ _ _ _ _ _ _ _ _ _ _ _ _ _ _ _ _ _ _ _ _ _ _ _ _ _ _ _ _ _ _ _ _ _ _ _ _ _ _ _ _ _ _ _ _ _ _ _ _ _ _ _ _ _ _ _ _ _ _ _ _ _ _ _ _ _ _ _ _ _ _ _ _ _ _ _ _ _ _ _ _ _ _ _ _ _ _ _ _ _ _ _ _ _ _ _ _ _ _ _ _ _ _ _ _ _ _ _ _ _ _ _ _ _ _ _ _ _ _ _ _ _ _ _ _ _ _ _ _ _ _ _ _ _ _ _ _ _ _ _ _ _ _ _ _ _ _ _ _ (fun bs' w6 v11 v168 v169 v170 v171 v172 v173 v174 v175 v176 v177 v178 v179 v180 v181 v182 v183 v184 v185 v186 v187 v188 v189 hG6 l6 o6 => ?_)
  rw [← l6]
  have O6 : Only [] w w6 := O5.trans2 o6 (fun y hy => .inr (by rw [List.mem_singleton.1 hy]; exact Nat.le_trans (O3.trans o4).size gG))
  refine ex_g Q i A G c il bs' un w6 (hVr.only0 O6) hG6 (by omega) (hA5.only o6 (by simpa using aG)) hU.r0 _ _ _ _ _ _ _ _ _ _ _ _ _ _ _ _ _ _ _ _ _ _ _ _ _ _ _ _ _ _ _ _ _ _ _ _ _ _ _ _ _ _ _ _ _ _ _ _ _ _ _ _ _ _ _ _ _ _ _ _ _ _ _ _ _ _ _ _ _ _ _ _ _ _ _ _ _ _ _ _ _ _ _ _ _ _ _ _ _ _ _ _ _ _ _ _ _ _ _ _ _ _ _ _ _ _ _ _ _ _ _ _ _ _ _ _ _ _ _ _ _ _ _ _ _ _ _ _ _ _ _ _ _ _ _ _ _ _ _ _ _ _ _ _ _ _ _ _ _ _ _ _ _ _ _ _ _ _ _ _ _ _ _ _ _ _ _ _ _ _ _ _ _ _ _ _ _ _ _ _ _ _ _ _ _ _ _ _ _ _ _ _ _ _ _ _ _ _ _ _ _ _ _ _ _ _ _ _ _ _ _ _ _ _ _ _ _ _ _ _ _ _ _ _ _ _ _ _ _ _ _ _ _ _ _ _ _ _ _ _ _ _ _ _ _ _ _ _ _ _ _ _ _ _ (fun w7 v190 v191 v192 v193 v194 v195 v196 v197 v198 v199 v200 v201 v202 v203 v204 v205 v206 v207 v208 v209 v210 v211 v212 v213 v214 v215 v216 v217 v218 o7 => ?_)
  exact hr w7 _ _ _ _ _ _ _ _ _ _ _ _ _ _ _ _ _ _ _ _ _ _ _ _ _ _ _ _ _ _ _ _ _ _ _ _ _ _ _ _ _ _ _ _ _ _ _ _ _ _ _ _ _ _ _ _ _ _ _ _ _ _ _ _ _ _ _ _ _ _ _ _ _ _ _ _ _ _ _ _ _ _ _ _ _ _ _ _ _ _ _ _ _ _ _ _ _ _ _ _ _ _ _ _ _ _ _ _ _ _ _ _ _ _ _ _ _ _ _ _ _ _ _ _ _ _ _ _ _ _ _ _ _ _ _ _ _ _ _ _ _ _ _ _ _ _ _ _ _ _ _ _ _ _ _ _ _ _ _ _ _ _ _ _ _ _ _ _ _ _ _ _ _ _ _ _ _ _ _ _ _ _ _ _ _ _ _ _ _ _ _ _ _ _ (O6.trans o7)
end Go.Proofs.YtjjjfmnhdnajkaaGreatDoor

end
section
set_option maxRecDepth 20000
namespace Go.Proofs.YtjjjfmnhdnajkaaGreatDoor
open Go.RowKit
set_option linter.unusedVariables false
set_option linter.unusedSimpArgs false
noncomputable def exT : Code := dropSeq 3 (Tryz.f3.body.getD .skip)
theorem readH_bad {s : ByteArray} {f : Int → Option SV} {g : Int → Option PV} : readH s 0 0 true f g = (2, h0, 0) := by
  unfold readH
  rw [if_pos (by decide)]
set_option maxRecDepth 1000000 in
set_option maxHeartbeats 8000000 in
theorem ex_t (rest : Code) (Q : Exit → Act → World → Prop) (w : World) (hVr : Vars w) (u0 u1 u2 u3 u4 u5 u6 u7 u8 u9 u10 u11 u12 u13 u14 u15 u16 u17 u18 u19 u20 u21 u22 u23 u24 u25 u26 u27 u28 u29 u30 u31 u32 u33 u34 u35 u36 u37 u38 u39 u40 u41 u42 u43 u44 u45 u46 u47 u48 u49 u50 u51 u52 u53 u54 u55 u56 u57 u58 u59 u60 u61 u62 u63 u64 u65 u66 u67 u68 u69 u70 u71 u72 u73 u74 u75 u76 u77 u78 u79 u80 u81 u82 u83 u84 u85 u86 u87 u88 u89 u90 u91 u92 u93 u94 u95 u96 u97 u98 u99 u100 u101 u102 u103 u104 u105 u106 u107 u108 u109 u110 u111 u112 u113 u114 u115 u116 u117 u118 u119 u120 u121 u122 u123 u124 u125 u126 u127 u128 u129 u130 u131 u132 u133 u134 u135 u136 u137 u138 u139 u140 u141 u142 u143 u144 u145 u146 u147 u148 u149 u150 u151 u152 u153 u154 u155 u156 u157 u158 u159 u160 u161 u162 u163 u164 u165 u166 u167 u168 u169 u170 u171 u172 u173 u174 u175 u176 u177 u178 u179 u180 u181 u182 u183 u184 u185 u186 u187 u188 u189 u190 u191 u192 u193 u194 u195 u196 u197 u198 u199 u200 u201 u202 u203 u204 u205 u206 u207 u208 u209 u210 u211 u212 u213 u214 u215 u216 u217 u218 u219 u220 u221 u222 u223 u224 u225 u226 u227 u228 u229 u230 u231 u232 u233 u234 u235 u236 u237 u238 u239 u240 u241 u242 u243 u244 u245 u246 u247 u248 u249 u250 u251 u252 u253 u254 u255 u256 : Value)
    (hr : ∀ (w' : World) (v0 v12 v13 v14 v15 v16 v17 v219 v220 v221 v222 v223 v224 v225 v226 v227 v228 v229 v230 v231 v232 v233 v234 v235 v236 v237 v238 v239 v240 v241 v242 v243 v244 v245 v246 v247 v248 v249 v250 v251 v252 v253 v254 v255 v256 : Value), v0 = .bool true → Only [] w w' → rest.wp Tryz.prog Q ⟨#[v0, u1, u2, u3, u4, u5, u6, u7, u8, u9, u10, u11, v12, v13, v14, v15, v16, v17, u18, u19, u20, u21, u22, u23, u24, u25, u26, u27, u28, u29, u30, u31, u32, u33, u34, u35, u36, u37, u38, u39, u40, u41, u42, u43, u44, u45, u46, u47, u48, u49, u50, u51, u52, u53, u54, u55, u56, u57, u58, u59, u60, u61, u62, u63, u64, u65, u66, u67, u68, u69, u70, u71, u72, u73, u74, u75, u76, u77, u78, u79, u80, u81, u82, u83, u84, u85, u86, u87, u88, u89, u90, u91, u92, u93, u94, u95, u96, u97, u98, u99, u100, u101, u102, u103, u104, u105, u106, u107, u108, u109, u110, u111, u112, u113, u114, u115, u116, u117, u118, u119, u120, u121, u122, u123, u124, u125, u126, u127, u128, u129, u130, u131, u132, u133, u134, u135, u136, u137, u138, u139, u140, u141, u142, u143, u144, u145, u146, u147, u148, u149, u150, u151, u152, u153, u154, u155, u156, u157, u158, u159, u160, u161, u162, u163, u164, u165, u166, u167, u168, u169, u170, u171, u172, u173, u174, u175, u176, u177, u178, u179, u180, u181, u182, u183, u184, u185, u186, u187, u188, u189, u190, u191, u192, u193, u194, u195, u196, u197, u198, u199, u200, u201, u202, u203, u204, u205, u206, u207, u208, u209, u210, u211, u212, u213, u214, u215, u216, u217, u218, v219, v220, v221, v222, v223, v224, v225, v226, v227, v228, v229, v230, v231, v232, v233, v234, v235, v236, v237, v238, v239, v240, v241, v242, v243, v244, v245, v246, v247, v248, v249, v250, v251, v252, v253, v254, v255, v256], []⟩ w') :
    (endWith 4 exT rest).wp Tryz.prog Q ⟨#[u0, u1, u2, u3, u4, u5, u6, u7, u8, u9, u10, u11, u12, u13, u14, u15, u16, u17, u18, u19, u20, u21, u22, u23, u24, u25, u26, u27, u28, u29, u30, u31, u32, u33, u34, u35, u36, u37, u38, u39, u40, u41, u42, u43, u44, u45, u46, u47, u48, u49, u50, u51, u52, u53, u54, u55, u56, u57, u58, u59, u60, u61, u62, u63, u64, u65, u66, u67, u68, u69, u70, u71, u72, u73, u74, u75, u76, u77, u78, u79, u80, u81, u82, u83, u84, u85, u86, u87, u88, u89, u90, u91, u92, u93, u94, u95, u96, u97, u98, u99, u100, u101, u102, u103, u104, u105, u106, u107, u108, u109, u110, u111, u112, u113, u114, u115, u116, u117, u118, u119, u120, u121, u122, u123, u124, u125, u126, u127, u128, u129, u130, u131, u132, u133, u134, u135, u136, u137, u138, u139, u140, u141, u142, u143, u144, u145, u146, u147, u148, u149, u150, u151, u152, u153, u154, u155, u156, u157, u158, u159, u160, u161, u162, u163, u164, u165, u166, u167, u168, u169, u170, u171, u172, u173, u174, u175, u176, u177, u178, u179, u180, u181, u182, u183, u184, u185, u186, u187, u188, u189, u190, u191, u192, u193, u194, u195, u196, u197, u198, u199, u200, u201, u202, u203, u204, u205, u206, u207, u208, u209, u210, u211, u212, u213, u214, u215, u216, u217, u218, u219, u220, u221, u222, u223, u224, u225, u226, u227, u228, u229, u230, u231, u232, u233, u234, u235, u236, u237, u238, u239, u240, u241, u242, u243, u244, u245, u246, u247, u248, u249, u250, u251, u252, u253, u254, u255, u256], []⟩ w := by
  conv => arg 2; whnf; arg 2; whnf; arg 2; whnf; arg 2; whnf; arg 2; whnf
  have HR := hid hr
  clear hr
  have VV := hid hVr
  clear hVr
  go_wp2_with fail
  refine (new_any w).mono ?_
  rintro e w1 ⟨rfl, s1, o1⟩
  have O1 := hid o1
  clear s1 o1
  go_wp2_with fail
  refine (hread_nil1 w1 _).mono ?_
  rintro e w2 ⟨rfl, o2⟩
  have O2 := hid (O1.out.trans o2)
  clear o2
  simp only [hV, hC, h0]
  go_upto_region 29 with (refine store_blk rfl 34 _ _ rfl w2.heap.size 0 _ _ (hC h0 (.slice none 0 0) (.slice none 0 0)) rfl rfl (info_hdr' _ _ _) (Blk.new w2 _ _) (by simp [hC]) (one_hC _ rfl rfl) ?_; intro w3 hB3 hO3)
  have O3 := hid (O2.out.trans (((Only.refl [] w2).alloc _).trans2 hO3 (fun y hy => .inr (by simp at hy; omega))))
  clear hB3 hO3
  go_wp2_with fail
  refine (read_any ⟨#[120]⟩ w3 (by decide)).mono ?_
  rintro e w4 ⟨rfl, r4, o4⟩
  have O4 := hid (O3.out.trans o4)
  clear r4 o4
  go_wp2_with fail
  refine (hread_nil2 w4 _).mono ?_
  rintro e w5 ⟨rfl, o5⟩
  have O5 := hid (O4.out.trans o5)
  clear o5
  simp only [hV, hC, h0]
  go_upto_region 30 with (refine store_blk rfl 34 _ _ rfl w5.heap.size 0 _ _ (hC h0 (.slice none 0 0) (.slice none 0 0)) rfl rfl (info_hdr' _ _ _) (Blk.new w5 _ _) (by simp [hC]) (one_hC _ rfl rfl) ?_; intro w6 hB6 hO6)
  have O6 := hid (O5.out.trans (((Only.refl [] w5).alloc _).trans2 hO6 (fun y hy => .inr (by simp at hy; omega))))
  clear hB6 hO6
  go_wp2_with fail
  refine (read_any ⟨#[120]⟩ w6 (by decide)).mono ?_
  rintro e w7 ⟨rfl, r7, o7⟩
  have O7 := hid (O6.out.trans o7)
  have R7 := hid r7
  clear r7 o7
  go_wp2_with fail
  refine (new_any w7).mono ?_
  rintro e w8 ⟨rfl, s8, o8⟩
  have O8 := hid (O7.out.trans o8)
  have R8 := hid (R7.out.only o8 (by simp))
  have L8 := hid (And.intro s8 (show w6.heap.size ∉ [w7.heap.size] from by have := R7.out.lt; simp; omega))
  clear s8 o8
  go_wp2_with fail
  refine (hread_any (ref := 0) (idr := true) (VV.out.only0 O8.out) (by decide) R8.out L8.out.1 L8.out.2 (fun _ _ h => by cases h) (fun _ _ h => by cases h) (by decide)).mono ?_
  rw [readH_bad]
  rintro e w9 ⟨mv, kv, rfl, hR9, o9, hm, hk, _, _⟩
  obtain ⟨ma, mc, e1⟩ := holdsM_slice hm
  obtain ⟨ka, kc, e2⟩ := holdsM_slice hk
  dsimp only at e1 e2
  subst e1 e2
  have B6 := hid (show w.heap.size ≤ w6.heap.size from O6.out.size)
  have O9 := hid (O8.out.trans2 o9 (fun y hy => .inr (by rw [List.mem_singleton.1 hy]; exact B6.out)))
  clear hR9 o9 hm hk R8 L8 R7
  simp only [hV, hC, h0]
  go_upto_region 31 with (refine store_blk rfl 34 _ _ rfl w9.heap.size 0 _ _ (hC h0 (.slice ma 0 mc) (.slice ka 0 kc)) rfl rfl (info_hdr' _ _ _) (Blk.new w9 _ _) (by simp [hC]) (one_hC _ rfl rfl) ?_; intro w10 hB10 hO10)
  have O10 := hid (O9.out.trans (((Only.refl [] w9).alloc _).trans2 hO10 (fun y hy => .inr (by simp at hy; omega))))
  clear hB10 hO10
  go_wp2_with fail
  refine (hput_nil h0 ⟨1, true, p0, s0⟩ w10).mono ?_
  rintro e w11 ⟨rfl, o11⟩
  have O11 := hid (O10.out.trans o11)
  clear o11
  go_wp2_with fail
  refine (hawake_any w11 (VV.out.only0 O11.out)).mono ?_
  rintro e w12 ⟨rfl, o12⟩
  have O12 := hid (O11.out.trans o12)
  clear o12
  go_wp2_with fail
  exact HR.out _ _ _ _ _ _ _ _ _ _ _ _ _ _ _ _ _ _ _ _ _ _ _ _ _ _ _ _ _ _ _ _ _ _ _ _ _ _ _ _ _ _ _ _ _ _ rfl O12.out
end Go.Proofs.YtjjjfmnhdnajkaaGreatDoor

end
section
set_option maxRecDepth 20000
namespace Go.Proofs.YtjjjfmnhdnajkaaGreatDoor
open Go.RowKit
set_option linter.unusedVariables false
set_option linter.unusedSimpArgs false
noncomputable def exTc : Code := endWith 4 exT .ret
noncomputable def exF : Code := Tryz.f3.body.getD .skip
set_option maxRecDepth 1000000 in
set_option maxHeartbeats 8000000 in
theorem hexamples_any (W : World) (hVr : Vars W) : Calls Tryz.prog 3 #[] W fun e w' => e = .returned (.bool true) ∧ Only [] W w' := by
  have VV := hid hVr
  clear hVr
  go_enter Tryz.func3, Tryz.ntmps3
  generalize hc : (Code.seq _ _) = cc
  have hcc : cc = endWith 3 exF exTc := by rw [← hc]; kernel_rfl
  rw [hcc]
  clear hc hcc
  conv => arg 2; whnf; arg 2; whnf; arg 2; whnf
  go_upto_region 2 with fail
  have E0 := hid (hends_new W 3)
  obtain ⟨W1, hW1⟩ : ∃ W1, W1 = W.alloc (.cells hnC 3) := ⟨_, rfl⟩
  obtain ⟨p, hp⟩ : ∃ p, p = W.heap.size := ⟨_, rfl⟩
  have O1 := hid (show Only [] W W1 from hW1 ▸ ((Only.refl [] W).alloc _))
  rw [← hW1, ← hp] at E0
  simp only [hnC] at hW1
  rw [← hW1, ← hp]
  clear hW1 hp
  go_wp2_with fail
  go_loopg [2] 20 (fun g t wr => ∃ i : Nat, i + g = 20 ∧ t = .int .i64 i ∧ HEnds wr p ∧ Only [] W wr)
  case atStart => exact ⟨0, rfl, rfl, E0.out, O1.out⟩
  case round =>
    obtain ⟨i, hi, rfl, hE, hO⟩ := hrel
    have EE := hid hE
    have OO := hid hO
    clear hO hE
    by_cases hg : gk = 0
    · have i1 : ¬ (i : Int) < 20 := by omega
      clear hi hg
      go_wp2_with fail
      unfold exTc
      refine ex_t _ _ wr (VV.out.only0 OO.out) _ _ _ _ _ _ _ _ _ _ _ _ _ _ _ _ _ _ _ _ _ _ _ _ _ _ _ _ _ _ _ _ _ _ _ _ _ _ _ _ _ _ _ _ _ _ _ _ _ _ _ _ _ _ _ _ _ _ _ _ _ _ _ _ _ _ _ _ _ _ _ _ _ _ _ _ _ _ _ _ _ _ _ _ _ _ _ _ _ _ _ _ _ _ _ _ _ _ _ _ _ _ _ _ _ _ _ _ _ _ _ _ _ _ _ _ _ _ _ _ _ _ _ _ _ _ _ _ _ _ _ _ _ _ _ _ _ _ _ _ _ _ _ _ _ _ _ _ _ _ _ _ _ _ _ _ _ _ _ _ _ _ _ _ _ _ _ _ _ _ _ _ _ _ _ _ _ _ _ _ _ _ _ _ _ _ _ _ _ _ _ _ _ _ _ _ _ _ _ _ _ _ _ _ _ _ _ _ _ _ _ _ _ _ _ _ _ _ _ _ _ _ _ _ _ _ _ _ _ _ _ _ _ _ _ _ _ _ _ _ _ _ _ _ _ _ _ _ _ _ _ _ _ _ _ _ _ (fun w2 v0 v12 v13 v14 v15 v16 v17 v219 v220 v221 v222 v223 v224 v225 v226 v227 v228 v229 v230 v231 v232 v233 v234 v235 v236 v237 v238 v239 v240 v241 v242 v243 v244 v245 v246 v247 v248 v249 v250 v251 v252 v253 v254 v255 v256 hv o2 => ?_)
      subst hv
      go_wp2_with fail
      go_ret
      exact ⟨rfl, OO.out.trans o2⟩
    · have i1 : (i : Int) < 20 := by omega
      have i0 : (0 : Int) ≤ (i : Int) := by omega
      obtain ⟨gg, rfl⟩ : ∃ gg, gk = gg + 1 := ⟨gk - 1, by omega⟩
      have IN := hid (show i + 1 + gg = 20 ∧ i < 20 by omega)
      have ce := EE.out i IN.out.2
      clear hi hg
      go_wp2_with fail
      clear ce
      go_loopg [4] 16 (fun g t w2 => ∃ k : Nat, k + g = 16 ∧ t = .int .i64 k ∧ Only [] wr w2)
      case atStart => exact ⟨0, rfl, rfl, Only.refl [] wr⟩
      case round =>
        obtain ⟨k, hk, rfl, h2⟩ := hrel
        have O2 := hid h2
        clear h2
        by_cases hg : gk = 0
        · have k1 : ¬ (k : Int) < 16 := by omega
          clear hk hg
          go_wp2_with fail
          go_roundg gg
          case measure => omega
          case rel => exact ⟨i + 1, IN.out.1, by go_num, EE.out.only O2.out, OO.out.trans O2.out⟩
        · have k1 : (k : Int) < 16 := by omega
          have k0 : (0 : Int) ≤ (k : Int) := by omega
          obtain ⟨hh, rfl⟩ : ∃ hh, gk = hh + 1 := ⟨gk - 1, by omega⟩
          have KN := hid (show k + 1 + hh = 16 ∧ k < 16 by omega)
          clear hk hg
          go_upto_block 3 with fail
          refine wp_block ?_
          generalize hc : (Code.seq _ _) = cc
          have hcc : cc = exB := by rw [← hc]; kernel_rfl
          rw [hcc]
          clear hc hcc
          refine ex_body _ (fun _ _ _ _ _ h => h) i k IN.out.2 KN.out.2 _ (VV.out.only0 (OO.out.trans O2.out)) _ _ _ _ _ _ _ _ _ _ _ _ _ _ _ _ _ _ _ _ _ _ _ _ _ _ _ _ _ _ _ _ _ _ _ _ _ _ _ _ _ _ _ _ _ _ _ _ _ _ _ _ _ _ _ _ _ _ _ _ _ _ _ _ _ _ _ _ _ _ _ _ _ _ _ _ _ _ _ _ _ _ _ _ _ _ _ _ _ _ _ _ _ _ _ _ _ _ _ _ _ _ _ _ _ _ _ _ _ _ _ _ _ _ _ _ _ _ _ _ _ _ _ _ _ _ _ _ _ _ _ _ _ _ _ _ _ _ _ _ _ _ _ _ _ _ _ _ _ _ _ _ _ _ _ _ _ _ _ _ _ _ _ _ _ _ _ _ _ _ _ _ _ _ _ _ _ _ _ _ _ _ _ _ _ _ _ _ _ _ _ _ _ _ _ _ _ _ _ _ _ _ _ _ _ _ _ _ _ _ _ _ _ _ _ _ _ _ _ _ _ _ _ _ _ _ _ _ _ _ _ _ _ _ _ _ _ _ _ _ _ _ _ _ _ _ _ _ _ _ _ _ _ _ (fun w3 v0 v5 v6 v7 v8 v9 v10 v11 v33 v34 v35 v36 v37 v38 v39 v40 v41 v42 v43 v44 v45 v46 v47 v48 v49 v50 v51 v52 v53 v54 v55 v56 v57 v58 v59 v60 v61 v62 v63 v64 v65 v66 v67 v68 v69 v70 v71 v72 v73 v74 v75 v76 v77 v78 v79 v80 v81 v82 v83 v84 v85 v86 v87 v88 v89 v90 v91 v92 v93 v94 v95 v96 v97 v98 v99 v100 v101 v102 v103 v104 v105 v106 v107 v108 v109 v110 v111 v112 v113 v114 v115 v116 v117 v118 v119 v120 v121 v122 v123 v124 v125 v126 v127 v128 v129 v130 v131 v132 v133 v134 v135 v136 v137 v138 v139 v140 v141 v142 v143 v144 v145 v146 v147 v148 v149 v150 v151 v152 v153 v154 v155 v156 v157 v158 v159 v160 v161 v162 v163 v164 v165 v166 v167 v168 v169 v170 v171 v172 v173 v174 v175 v176 v177 v178 v179 v180 v181 v182 v183 v184 v185 v186 v187 v188 v189 v190 v191 v192 v193 v194 v195 v196 v197 v198 v199 v200 v201 v202 v203 v204 v205 v206 v207 v208 v209 v210 v211 v212 v213 v214 v215 v216 v217 v218 o3 => ?_)
          go_wp2_with fail
          go_roundg hh
          case measure => omega
          case rel => exact ⟨k + 1, KN.out.1, by go_num, O2.out.trans o3⟩
end Go.Proofs.YtjjjfmnhdnajkaaGreatDoor

end

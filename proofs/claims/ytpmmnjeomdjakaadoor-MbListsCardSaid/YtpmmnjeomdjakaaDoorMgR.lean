/- MbLists: a block less, a shorter one. -/
import Derived.Test.YtpmmnjeomdjakaaDoorMgQ
namespace Go.Proofs.YtpmmnjeomdjakaaDoor
open Go.RowKit
set_option linter.unusedVariables false
set_option linter.unusedSimpArgs false

/-- A block less at pa, a shorter one at pb. -/
structure LiU (w0 w : World) (P : MV) (pa pb n' i : Nat) (b : List Int) (ra va rb vb : Value) (aa bb : Value) : Prop where
  ka : Blk w pa 28 (mC { P with blocks := P.blocks.take n' } ra va aa).toArray
  kb : Blk w pb 28 (mC { P with blocks := P.blocks.set i (b.drop 1) } rb vb bb).toArray
  a : MAt w { P with blocks := P.blocks.take n' } ra va aa
  b : MAt w { P with blocks := P.blocks.set i (b.drop 1) } rb vb bb
  o : Only [] w0 w
set_option maxRecDepth 1000000 in
set_option maxHeartbeats 8000000 in
theorem li_cut (rest : Code) (Q : Exit → Act → World → Prop) (hQ : ∀ c (a : Act) d v w, Q (.panic c) (a.put (some d) v) w → Q (.panic c) a w) (P : MV) (L : List Cod) (la : Option Addr) (n' lc i pa pb : Nat) (b : List Int) (ra va ba rb vb bb : Value) (w0 w : World) (lp : LiP P L) (hn : n' + 1 = L.length) (hi : i < n' + 1) (hb : P.blocks[i]? = some b) (hb2 : 2 ≤ b.length) (h : LiT w0 w P pa pb ra va ba rb vb bb) (u0 u1 u3 u4 u5 u6 u7 u9 u10 u11 u12 u13 u14 u15 u18 u19 u20 u21 u22 u23 u24 u25 u26 u27 u28 u29 u30 u31 u32 u33 u34 u35 u36 u37 u38 u39 u40 u41 u42 u43 u44 u45 u46 u47 u48 u49 u50 u51 u52 u53 u54 u55 u56 u57 u58 u59 u60 u61 u62 u63 u64 u65 u66 u67 u68 u69 u70 u71 u72 u73 u74 u75 u76 u77 u78 u79 u80 u81 u82 u83 u84 u85 u86 u87 u88 u89 u90 u91 u92 u93 u94 u95 u96 u97 u98 u99 u100 u101 u102 u103 u104 u105 u106 u107 u108 u109 u110 u111 u112 u113 u114 u115 u116 u117 u118 u119 u120 u121 u122 u123 u124 u125 u126 u127 u128 u129 u130 u131 u132 u133 u134 u135 u136 u137 u138 u139 u140 u141 u142 u143 u144 u145 u146 u147 u148 u149 u150 u151 u152 u153 u154 u155 u156 u157 u158 u159 u160 u161 u162 u163 u164 u165 u166 u167 u168 u169 u170 u171 u172 u173 u174 u175 u176 u177 u178 u179 u180 u181 u182 u183 u184 u185 u186 u187 : Value)
    (hr : ∀ (w' : World) (aa bb : Value) (v145 v146 v147 v148 v149 v150 v151 v152 v153 v154 v155 v156 v157 v158 v159 v160 v161 : Value), LiU w0 w' P pa pb n' i b ra va rb vb aa bb → rest.wp Tryd.prog Q ⟨#[u0, u1, .int .i64 (i : Nat), u3, u4, u5, u6, u7, .slice la (n' + 1) lc, u9, u10, u11, u12, u13, u14, u15, .pointer (some ⟨pa, 0, none⟩), .pointer (some ⟨pb, 0, none⟩), u18, u19, u20, u21, u22, u23, u24, u25, u26, u27, u28, u29, u30, u31, u32, u33, u34, u35, u36, u37, u38, u39, u40, u41, u42, u43, u44, u45, u46, u47, u48, u49, u50, u51, u52, u53, u54, u55, u56, u57, u58, u59, u60, u61, u62, u63, u64, u65, u66, u67, u68, u69, u70, u71, u72, u73, u74, u75, u76, u77, u78, u79, u80, u81, u82, u83, u84, u85, u86, u87, u88, u89, u90, u91, u92, u93, u94, u95, u96, u97, u98, u99, u100, u101, u102, u103, u104, u105, u106, u107, u108, u109, u110, u111, u112, u113, u114, u115, u116, u117, u118, u119, u120, u121, u122, u123, u124, u125, u126, u127, u128, u129, u130, u131, u132, u133, u134, u135, u136, u137, u138, u139, u140, u141, u142, u143, u144, v145, v146, v147, v148, v149, v150, v151, v152, v153, v154, v155, v156, v157, v158, v159, v160, v161, u162, u163, u164, u165, u166, u167, u168, u169, u170, u171, u172, u173, u174, u175, u176, u177, u178, u179, u180, u181, u182, u183, u184, u185, u186, u187], []⟩ w') :
    (endWith 2 (dropSeq 12 liB) rest).wp Tryd.prog Q ⟨#[u0, u1, .int .i64 (i : Nat), u3, u4, u5, u6, u7, .slice la (n' + 1) lc, u9, u10, u11, u12, u13, u14, u15, .pointer (some ⟨pa, 0, none⟩), .pointer (some ⟨pb, 0, none⟩), u18, u19, u20, u21, u22, u23, u24, u25, u26, u27, u28, u29, u30, u31, u32, u33, u34, u35, u36, u37, u38, u39, u40, u41, u42, u43, u44, u45, u46, u47, u48, u49, u50, u51, u52, u53, u54, u55, u56, u57, u58, u59, u60, u61, u62, u63, u64, u65, u66, u67, u68, u69, u70, u71, u72, u73, u74, u75, u76, u77, u78, u79, u80, u81, u82, u83, u84, u85, u86, u87, u88, u89, u90, u91, u92, u93, u94, u95, u96, u97, u98, u99, u100, u101, u102, u103, u104, u105, u106, u107, u108, u109, u110, u111, u112, u113, u114, u115, u116, u117, u118, u119, u120, u121, u122, u123, u124, u125, u126, u127, u128, u129, u130, u131, u132, u133, u134, u135, u136, u137, u138, u139, u140, u141, u142, u143, u144, u145, u146, u147, u148, u149, u150, u151, u152, u153, u154, u155, u156, u157, u158, u159, u160, u161, u162, u163, u164, u165, u166, u167, u168, u169, u170, u171, u172, u173, u174, u175, u176, u177, u178, u179, u180, u181, u182, u183, u184, u185, u186, u187], []⟩ w := by
  conv => arg 2; whnf; arg 2; whnf; arg 2; whnf
  have HR := hid hr
  clear hr
  have hnb : P.blocks.length = n' + 1 := by rw [lp.bl]; exact hn.symm
  obtain ⟨ga, gc, ef, lc0, lc1⟩ : ∃ a c, ba = .slice a P.blocks.length c ∧ P.blocks.length ≤ c ∧ c ≤ maxLen := by
    obtain ⟨us, h1, h2, _⟩ := h.a.at.b
    obtain ⟨a, c, e, h3, h4, _⟩ := h1
    exact ⟨a, c, by rw [e, h2], by omega, h4⟩
  subst ef
  obtain ⟨w2, hw2⟩ : ∃ W, W = w.setCell ⟨pa, 27, none⟩ (.slice ga n' gc) := ⟨_, rfl⟩
  have k27 : Only [pa] w w2 := hw2 ▸ (Only.refl _ _).setCell (.inl (by simp)) _
  have KA2 := hid (show Blk w2 pa 28 (mC { P with blocks := P.blocks.take n' } ra va (.slice ga n' gc)).toArray from hw2 ▸ h.ka.set 27 _)
  have HW2 := hid hw2
  have MA2 := hid ((h.a.turn h.ka k27).take n' (by omega))
  have RB2 := hid (h.b.turn h.ka k27)
  obtain ⟨g, c3, cur, q, d, eb, BG, hc, d0, d1, hM⟩ := RB2.out.shortL hb hb2
  subst eb
  have KB2 := hid (h.kb.only k27 (by have := h.ne; simp; omega))
  have MS := hid hM
  have BG2 := hid BG
  have HC := hid hc
  have HB := hid hb
  have O2 := hid (h.o.trans2 k27 (fun g hg => .inr (by have := h.pan; simp at hg; omega)))
  have AP := hid (h.ap)
  have BN := hid (h.bn g (by simp [ownG, Value.ownBlock]))
  have KBL := hid (fun (e : g = pb) => (show False from by
    have h1 := KB2.out
    rw [← e] at h1
    have q := (show w2.heap[g]? = _ from h1).symm.trans (show w2.heap[g]? = _ from BG)
    simp at q))
  have GPA := hid (fun (e : g = pa) => (show False from by
    have h1 := KA2.out
    rw [← e] at h1
    have q := (show w2.heap[g]? = _ from h1).symm.trans (show w2.heap[g]? = _ from BG)
    simp at q))
  have dn : ¬ d = 1 := by omega
  have RA2 := hid (h.a.turn h.ka k27)
  have c27 := h.ka.cell (i := 27) (v := .slice ga P.blocks.length gc) rfl
  have f27 := h.ka.frozen 27
  rw [hnb] at c27 KB2 lc0 MS
  have wi' : IntKind.i64.wrap (n' : Int) = (n' : Int) := IntWalk.i64_in _ (by unfold maxLen at lc1; omega)
  have l0 : (0 : Int) ≤ (n' : Int) := by omega
  have l1 : (n' : Int) ≤ (gc : Int) := by omega
  have i0 : (0 : Int) ≤ (i : Int) := by omega
  have i1 : (i : Int) < (n' : Int) + 1 := by omega
  have b1 : (1 : Int) ≤ (b.length : Int) := by omega
  have b3 : (b.length : Int) ≤ (d : Int) := by omega
  have HNB := hid hnb
  have HB2 := hid hb2
  clear hw2 h hb hb2 lp hn hc BG lc0 lc1 k27 hi hM hnb d0 d1
  go_upto_region 28 with fail
  rw [← HW2.out]
  clear c27 f27
  refine wp_region_tail (fun w' => Only [] w2 w') 10 11 (by kernel_rfl) rfl ((Only.refl _ _).drew) (fun hS => ?_)
  generalize hwd : w2.drew = wd at *
  refine wpAnyT_take 0 (v := ?va0) rfl (by kernel_rfl) (fun _ _ _ h => hQ _ _ _ _ _ h) (Or.inl ⟨by rfl, ?ya0⟩) hS ?ra0
  case ya0 =>
    intro w hSw
    have q1 := (KB2.out.only hSw (by simp)).cell (i := 27) (v := .slice (some ⟨g, 0, none⟩) (n' + 1) c3) rfl
    have q2 := (BG2.out.only hSw (by simp)).cell (i := i) HC.out
    go_simp
    (try with_reducible rfl)
  (try simp only [Act.put, List.setIfInBounds_toArray, List.set_cons_zero, List.set_cons_succ])
  refine wpAnyT_take 1 (v := ?va1) rfl (by kernel_rfl) (fun _ _ _ h => hQ _ _ _ _ _ h) (Or.inl ⟨by rfl, ?ya1⟩) hS ?ra1
  case ya1 =>
    intro w hSw
    have q1 := (KB2.out.only hSw (by simp)).cell (i := 27) (v := .slice (some ⟨g, 0, none⟩) (n' + 1) c3) rfl
    have q2 := (BG2.out.only hSw (by simp)).cell (i := i) HC.out
    go_simp
    (try with_reducible rfl)
  (try simp only [Act.put, List.setIfInBounds_toArray, List.set_cons_zero, List.set_cons_succ])
  refine wpAnyT_take 2 (v := ?va2) rfl (by kernel_rfl) (fun _ _ _ h => hQ _ _ _ _ _ h) (Or.inl ⟨by rfl, ?ya2⟩) hS ?ra2
  case ya2 =>
    intro w hSw
    have q1 := (KB2.out.only hSw (by simp)).cell (i := 27) (v := .slice (some ⟨g, 0, none⟩) (n' + 1) c3) rfl
    have q2 := (BG2.out.only hSw (by simp)).cell (i := i) HC.out
    go_simp
    (try with_reducible rfl)
  (try simp only [Act.put, List.setIfInBounds_toArray, List.set_cons_zero, List.set_cons_succ])
  refine wpAnyT_take 3 (v := ?va3) rfl (by kernel_rfl) (fun _ _ _ h => hQ _ _ _ _ _ h) (Or.inl ⟨by rfl, ?ya3⟩) hS ?ra3
  case ya3 =>
    intro w hSw
    have q1 := (KB2.out.only hSw (by simp)).cell (i := 27) (v := .slice (some ⟨g, 0, none⟩) (n' + 1) c3) rfl
    have q2 := (BG2.out.only hSw (by simp)).cell (i := i) HC.out
    go_simp
    (try with_reducible rfl)
  (try simp only [Act.put, List.setIfInBounds_toArray, List.set_cons_zero, List.set_cons_succ])
  refine wpAnyT_take 4 (v := ?va4) rfl (by kernel_rfl) (fun _ _ _ h => hQ _ _ _ _ _ h) (Or.inl ⟨by rfl, ?ya4⟩) hS ?ra4
  case ya4 =>
    intro w hSw
    have q1 := (KB2.out.only hSw (by simp)).cell (i := 27) (v := .slice (some ⟨g, 0, none⟩) (n' + 1) c3) rfl
    have q2 := (BG2.out.only hSw (by simp)).cell (i := i) HC.out
    go_simp
    (try with_reducible rfl)
  (try simp only [Act.put, List.setIfInBounds_toArray, List.set_cons_zero, List.set_cons_succ])
  refine wpAnyT_take 5 (v := ?va5) rfl (by kernel_rfl) (fun _ _ _ h => hQ _ _ _ _ _ h) (Or.inl ⟨by rfl, ?ya5⟩) hS ?ra5
  case ya5 =>
    intro w hSw
    have q1 := (KB2.out.only hSw (by simp)).cell (i := 27) (v := .slice (some ⟨g, 0, none⟩) (n' + 1) c3) rfl
    have q2 := (BG2.out.only hSw (by simp)).cell (i := i) HC.out
    go_simp
    (try with_reducible rfl)
  (try simp only [Act.put, List.setIfInBounds_toArray, List.set_cons_zero, List.set_cons_succ])
  refine wpAnyT_take 6 (v := ?va6) rfl (by kernel_rfl) (fun _ _ _ h => hQ _ _ _ _ _ h) (Or.inl ⟨by rfl, ?ya6⟩) hS ?ra6
  case ya6 =>
    intro w hSw
    have q1 := (KB2.out.only hSw (by simp)).cell (i := 27) (v := .slice (some ⟨g, 0, none⟩) (n' + 1) c3) rfl
    have q2 := (BG2.out.only hSw (by simp)).cell (i := i) HC.out
    go_simp
    (try with_reducible rfl)
  (try simp only [Act.put, List.setIfInBounds_toArray, List.set_cons_zero, List.set_cons_succ])
  refine wpAnyT_take 7 (v := ?va7) rfl (by kernel_rfl) (fun _ _ _ h => hQ _ _ _ _ _ h) (Or.inl ⟨by rfl, ?ya7⟩) hS ?ra7
  case ya7 =>
    intro w hSw
    have q1 := (KB2.out.only hSw (by simp)).cell (i := 27) (v := .slice (some ⟨g, 0, none⟩) (n' + 1) c3) rfl
    have q2 := (BG2.out.only hSw (by simp)).cell (i := i) HC.out
    go_simp
    (try with_reducible rfl)
  (try simp only [Act.put, List.setIfInBounds_toArray, List.set_cons_zero, List.set_cons_succ])
  refine wpAnyT_take 8 (v := ?va8) rfl (by kernel_rfl) (fun _ _ _ h => hQ _ _ _ _ _ h) (Or.inl ⟨by rfl, ?ya8⟩) hS ?ra8
  case ya8 =>
    intro w hSw
    have q1 := (KB2.out.only hSw (by simp)).cell (i := 27) (v := .slice (some ⟨g, 0, none⟩) (n' + 1) c3) rfl
    have q2 := (BG2.out.only hSw (by simp)).cell (i := i) HC.out
    go_simp
    (try with_reducible rfl)
  (try simp only [Act.put, List.setIfInBounds_toArray, List.set_cons_zero, List.set_cons_succ])
  refine wpAnyT_take 9 (v := ?va9) rfl (by kernel_rfl) (fun _ _ _ h => hQ _ _ _ _ _ h) (Or.inl ⟨by rfl, ?ya9⟩) hS ?ra9
  case ya9 =>
    intro w hSw
    have q1 := (KB2.out.only hSw (by simp)).cell (i := 27) (v := .slice (some ⟨g, 0, none⟩) (n' + 1) c3) rfl
    have q2 := (BG2.out.only hSw (by simp)).cell (i := i) HC.out
    go_simp
    (try with_reducible rfl)
  (try simp only [Act.put, List.setIfInBounds_toArray, List.set_cons_zero, List.set_cons_succ])
  refine wpAnyT_tail _ rfl (by kernel_rfl) ?_
  simp only [List.drop_succ_cons, List.drop_zero]
  have cg := (BG2.out.only hS (by simp)).cell (i := i) HC.out
  have fg := (BG2.out.only hS (by simp)).frozen i
  go_wp2_with fail
  have k3 : Only [g] wd (wd.setCell ⟨g, i, none⟩ (.slice (some ⟨q, 1, none⟩) (b.length - 1) (d - 1))) := (Only.refl _ _).setCell (.inl (by simp)) _
  have M3 := MS.out wd hS
  have ka3 := (KA2.out.only hS (by simp)).only k3 (by have := GPA.out; simp; exact fun e => this e.symm)
  have kb3 := (KB2.out.only hS (by simp)).only k3 (by have := KBL.out; simp; exact fun e => this e.symm)
  have ma3 := ((RA2.out.step hS).leave (BG2.out.only hS (by simp)) k3 (fun hh => AP.out g hh (by simp [ownG, Value.ownBlock]))).take n' (by have := HNB.out; omega)
  exact HR.out _ (.slice ga n' gc) (.slice (some ⟨g, 0, none⟩) (n' + 1) c3) _ _ _ _ _ _ _ _ _ _ _ _ _ _ _ _ _ ⟨ka3, kb3, ma3, M3, (O2.out.trans hS).trans2 k3 (fun z hz => .inr (by have := BN.out; simp at hz; omega))⟩
end Go.Proofs.YtpmmnjeomdjakaaDoor

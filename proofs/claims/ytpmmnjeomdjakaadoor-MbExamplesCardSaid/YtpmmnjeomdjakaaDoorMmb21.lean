/- Plain: no Refs; the list of blocks. -/
/- A slice of slices that a call appends to, beside a struct that holds it. -/
/- Plain: Blocks. -/
/- Plain: Pcm. -/
/- Plain. -/
import Derived.Test.YtpmmnjeomdjakaaDoorMfD
import Derived.Test.YtpmmnjeomdjakaaDoorMmb18
import Derived.Laws.IdiomStrings
section
set_option maxRecDepth 20000
namespace Go.Proofs.YtpmmnjeomdjakaaDoor
open Go.RowKit
set_option linter.unusedVariables false
set_option linter.unusedSimpArgs false

set_option maxRecDepth 1000000 in
set_option maxHeartbeats 8000000 in
theorem pl_refs0 (rest : Code) (Q : Exit → Act → World → Prop)  (K C : Int) (q : Nat) (w : World) (hk : interI K = false) (h0 : TwoR w w q (mC (smallM (K, 0, C)) N0 N0 N0).toArray N0 N0 [] []) (u0 u1 u2 u3 u4 u6 u7 u8 u9 u10 u11 u12 u13 u14 u15 u16 u17 u18 u19 u20 u21 u22 u23 u24 u25 u26 u27 u28 u29 u30 u31 u32 u33 u34 u35 u36 u37 u38 u39 u40 u41 u42 u43 u44 u45 u46 u47 u48 u49 u50 u51 u52 u53 u54 u55 u56 u57 u58 u59 u60 u61 u62 u63 u64 u65 u66 u67 u68 u69 u70 u71 u72 u73 u74 u75 u76 u77 u78 u79 u80 u81 u82 u83 u84 u85 u86 u87 u88 : Value)
    (hr : ∀ (w' : World) (rv vv : Value) (v6 v32 v33 v34 v35 v36 v37 v38 v39 v40 v41 v42 v43 v44 v45 v46 v47 v48 v49 v50 v51 v52 v53 v54 v55 v56 v57 : Value), TwoR w w' q (mC (smallM (K, 0, C)) rv vv N0).toArray rv vv [] [] → rest.wp Tryd.prog Q ⟨#[u0, u1, u2, u3, u4, .pointer (some ⟨q, 0, none⟩), v6, u7, u8, u9, u10, u11, u12, u13, u14, u15, u16, u17, u18, u19, u20, u21, u22, u23, u24, u25, u26, u27, u28, u29, u30, u31, v32, v33, v34, v35, v36, v37, v38, v39, v40, v41, v42, v43, v44, v45, v46, v47, v48, v49, v50, v51, v52, v53, v54, v55, v56, v57, u58, u59, u60, u61, u62, u63, u64, u65, u66, u67, u68, u69, u70, u71, u72, u73, u74, u75, u76, u77, u78, u79, u80, u81, u82, u83, u84, u85, u86, u87, u88], []⟩ w') :
    (endWith 1 (dropSeq 3 plB) rest).wp Tryd.prog Q ⟨#[u0, u1, u2, u3, u4, .pointer (some ⟨q, 0, none⟩), u6, u7, u8, u9, u10, u11, u12, u13, u14, u15, u16, u17, u18, u19, u20, u21, u22, u23, u24, u25, u26, u27, u28, u29, u30, u31, u32, u33, u34, u35, u36, u37, u38, u39, u40, u41, u42, u43, u44, u45, u46, u47, u48, u49, u50, u51, u52, u53, u54, u55, u56, u57, u58, u59, u60, u61, u62, u63, u64, u65, u66, u67, u68, u69, u70, u71, u72, u73, u74, u75, u76, u77, u78, u79, u80, u81, u82, u83, u84, u85, u86, u87, u88], []⟩ w := by
  conv => arg 2; whnf; arg 2; whnf
  have HR := hid hr
  clear hr
  have H0 := hid h0
  have RI := hid (fun w => rinter_any K w)
  rw [hk] at RI
  have BX := hid h0.b
  clear h0
  go_wp2_with fail
  go_loopg [6] 0 (fun g t wr => t = .int .i64 0 ∧ wr = w)
  case atStart => exact ⟨rfl, rfl⟩
  case round =>
    obtain ⟨rfl, rfl⟩ := hrel
    have m0 := BX.out.cell (i := 0) (v := .int .u8 K) rfl
    go_wp2_with fail
    refine (RI.out _).mono ?_
    rintro e w2 ⟨rfl, rfl⟩
    go_wp2_with fail
    exact HR.out _ N0 N0 _ _ _ _ _ _ _ _ _ _ _ _ _ _ _ _ _ _ _ _ _ _ _ _ _ _ _ H0.out
set_option maxRecDepth 1000000 in
set_option maxHeartbeats 8000000 in
theorem pl_list (rest : Code) (Q : Exit → Act → World → Prop)  (K C : Int) (q : Nat) (rv vv : Value) (w : World) (k0 : 0 ≤ K ∧ K ≤ 255) (c0 : 0 ≤ C ∧ C ≤ 255) (hB : Blk w q 28 (mC (smallM (K, 0, C)) rv vv N0).toArray) (u0 u1 u2 u3 u4 u6 u7 u8 u9 u10 u11 u12 u13 u14 u15 u16 u17 u18 u19 u20 u21 u22 u23 u24 u25 u26 u27 u28 u29 u30 u31 u32 u33 u34 u35 u36 u37 u38 u39 u40 u41 u42 u43 u44 u45 u46 u47 u48 u49 u50 u51 u52 u53 u54 u55 u56 u57 u58 u59 u60 u61 u62 u63 u64 u65 u66 u67 u68 u69 u70 u71 u72 u73 u74 u75 u76 u77 u78 u79 u80 u81 u82 u83 u84 u85 u86 u87 u88 : Value)
    (hr : ∀ (w' : World) (sv : Value) (v58 v59 : Value), ColC w w' sv (whichL (smallM (K, 0, C))) → rest.wp Tryd.prog Q ⟨#[u0, u1, u2, u3, u4, .pointer (some ⟨q, 0, none⟩), u6, sv, u8, u9, u10, u11, u12, u13, u14, u15, u16, u17, u18, u19, u20, u21, u22, u23, u24, u25, u26, u27, u28, u29, u30, u31, u32, u33, u34, u35, u36, u37, u38, u39, u40, u41, u42, u43, u44, u45, u46, u47, u48, u49, u50, u51, u52, u53, u54, u55, u56, u57, v58, v59, u60, u61, u62, u63, u64, u65, u66, u67, u68, u69, u70, u71, u72, u73, u74, u75, u76, u77, u78, u79, u80, u81, u82, u83, u84, u85, u86, u87, u88], []⟩ w') :
    (endWith 1 (dropSeq 4 plB) rest).wp Tryd.prog Q ⟨#[u0, u1, u2, u3, u4, .pointer (some ⟨q, 0, none⟩), u6, u7, u8, u9, u10, u11, u12, u13, u14, u15, u16, u17, u18, u19, u20, u21, u22, u23, u24, u25, u26, u27, u28, u29, u30, u31, u32, u33, u34, u35, u36, u37, u38, u39, u40, u41, u42, u43, u44, u45, u46, u47, u48, u49, u50, u51, u52, u53, u54, u55, u56, u57, u58, u59, u60, u61, u62, u63, u64, u65, u66, u67, u68, u69, u70, u71, u72, u73, u74, u75, u76, u77, u78, u79, u80, u81, u82, u83, u84, u85, u86, u87, u88], []⟩ w := by
  conv => arg 2; whnf; arg 2; whnf
  have HR := hid hr
  clear hr
  have BX := hid hB
  have CL := hid (rblocks_any (smallM (K, 0, C)) rv vv N0 w (small_in K 0 C ⟨k0, ⟨by omega, by omega⟩, c0⟩))
  clear hB k0 c0
  go_wp2_with (refine load_atA rfl 28 (.tmp 5) rfl ⟨q, 0, none⟩ (mC (smallM (K, 0, C)) rv vv N0) rfl BX.out.mb ?_; simp only [Act.put, List.setIfInBounds_toArray, List.set_cons_zero, List.set_cons_succ])
  refine CL.out.mono ?_
  rintro e w2 ⟨sv, rfl, c2⟩
  have C2 := hid c2
  clear c2
  go_wp2_with fail
  exact HR.out _ sv _ _ C2.out
end Go.Proofs.YtpmmnjeomdjakaaDoor

end
section
set_option maxRecDepth 20000
namespace Go.Proofs.YtpmmnjeomdjakaaDoor
open Go.RowKit
set_option linter.unusedVariables false
set_option linter.unusedSimpArgs false

theorem step_make {P : Program} {ops : Array Oper} {o : Oper} {a : Act} {w : World} {K : Act → World → Prop} {Q : Exit → Act → World → Prop} {E : Prop}
    (hg : Region.wanted o (yielded ops a.tmps) = true) (t : TypeId) (l c : Operand) (ho : o.op = .makeSlice t l c) (lv cv : Value) (hl : a.eval l = lv) (hc : a.eval c = cv) (v : Value) (w' : World) (hr : (Instr.makeSlice t lv cv).run P w = .ok v w')
    (hK : K (a.put o.dst v) w') : if Region.wanted o (yielded ops a.tmps) = true then Oper.wp P o a w K Q else E := by
  rw [if_pos hg]
  unfold Oper.wp
  simp [execOp, ho, hl, hc, hr, Result.andThen]
  exact hK
structure RowsR (w0 w : World) (q : Nat) (X : Array Value) (bv : Value) (bs : List (List Int)) : Prop where
  b : Blk w q 28 X
  r : ∃ vs : List SlV, RowG slC 1 24 w bv vs ∧ vs.length = bs.length ∧ (∀ (j : Nat) (v : SlV) (x : List Int), vs[j]? = some v → bs[j]? = some x → (RowI w v.sl x ∧ ∀ g, g ∈ ownI v.sl → w0.heap.size ≤ g ∧ g ∉ ownG bv)) ∧ (∀ (i j : Nat) (u v : SlV), i < j → vs[i]? = some u → vs[j]? = some v → ∀ g, g ∈ ownI u.sl → g ∉ ownI v.sl)
  new : ∀ g, g ∈ ownG bv → w0.heap.size ≤ g
  o : Only [q] w0 w
  ql : q < w0.heap.size
section
variable {w0 w w' : World} {q : Nat} {X : Array Value} {bv : Value} {bs : List (List Int)}
theorem RowsR.step (h : RowsR w0 w q X bv bs) (k : Only [] w w') : RowsR w0 w' q X bv bs := by
  obtain ⟨vs, h1, h2, h3, h4⟩ := h.r
  exact ⟨h.b.only k (by simp), ⟨vs, h1.only k (by simp), h2, fun j v x hv hx => ⟨(h3 j v x hv hx).1.only k (by simp), (h3 j v x hv hx).2⟩, h4⟩, h.new, h.o.trans (k.mono (fun _ _ h => by cases h)), h.ql⟩
theorem RowsR.app {wb : World} (hh : RowsR w0 wb q X bv bs) (ob : Only [] wb w) (lit : Value) (u : SlV) (y : List Int) (hu : RowI w u.sl y) (nb : ∀ g, g ∈ ownI u.sl → wb.heap.size ≤ g) (hl : HoldsG slC 1 w lit [u]) (hb : bs.length + 1 ≤ 1000000) :
    ∃ bv2 w2, (Builtin.append_ #[26, 26] 26 #[bv, lit]).run Tryd.prog w = .ok bv2 w2 ∧ RowsR w0 w2 q X bv2 (bs ++ [y]) := by
  have h := hh.step ob
  obtain ⟨vs, g1, h2, g3, h4⟩ := hh.r
  have h1 : RowG slC 1 24 w bv vs := g1.only ob (by simp)
  have h3 : ∀ (j : Nat) (v : SlV) (x : List Int), vs[j]? = some v → bs[j]? = some x → (RowI w v.sl x ∧ ∀ g, g ∈ ownI v.sl → w0.heap.size ≤ g ∧ g ∉ ownG bv) := fun j v x hv hx => ⟨(g3 j v x hv hx).1.only ob (by simp), (g3 j v x hv hx).2⟩
  have nu : ∀ g, g ∈ ownI u.sl → w0.heap.size ≤ g ∧ g ∉ ownG bv := fun g hg => ⟨Nat.le_trans hh.o.size (nb g hg), fun e => by have := g1.lt g e; have := nb g hg; omega⟩
  obtain ⟨bv2, w2, hrun, hrow, honly, hown⟩ := append_rowsG slC_ok sl_row bv lit vs [u] h1 hl (by simp; omega)
  have s0 := h.o.size
  have far : ∀ (v : SlV) (x : List Int), RowI w v.sl x → (∀ g, g ∈ ownI v.sl → w0.heap.size ≤ g ∧ g ∉ ownG bv) → RowI w2 v.sl x ∧ ∀ g, g ∈ ownI v.sl → w0.heap.size ≤ g ∧ g ∉ ownG bv2 := fun v x a b =>
    ⟨a.only honly (fun g hg => (b g hg).2), fun g hg => ⟨(b g hg).1, fun hh => (hown g hh).elim (b g hg).2 (fun k => by have := a.lt g hg; omega)⟩⟩
  have last : ∀ (j : Nat) (v : SlV), ¬ j < vs.length → (vs ++ [u])[j]? = some v → j = vs.length ∧ v = u := fun j v hj hv => by
    rw [List.getElem?_append_right (by omega)] at hv
    have e : j - vs.length = 0 := by
      have := (List.getElem?_eq_some_iff.1 hv).1
      simp at this
      omega
    rw [e] at hv
    simp only [List.getElem?_cons_zero, Option.some.injEq] at hv
    exact ⟨by omega, hv.symm⟩
  refine ⟨bv2, w2, hrun, ⟨h.b.only honly (fun hq => by have := h.new q hq; have := h.ql; omega), ⟨vs ++ [u], hrow, by simp [h2], fun j v x hv hx => ?_, fun i j a b hij ha hb' g hg hgb => ?_⟩, fun g hg => (hown g hg).elim (h.new g) (fun k => Nat.le_trans s0 k), h.o.trans2 honly (fun g hg => .inr (h.new g hg)), h.ql⟩⟩
  · by_cases hj : j < vs.length
    · rw [List.getElem?_append_left hj] at hv
      rw [List.getElem?_append_left (by omega)] at hx
      obtain ⟨a, b⟩ := h3 j v x hv hx
      exact far v x a b
    · obtain ⟨rfl, rfl⟩ := last j v hj hv
      rw [List.getElem?_append_right (by omega), ← h2] at hx
      simp only [Nat.sub_self, List.getElem?_cons_zero, Option.some.injEq] at hx
      subst hx
      exact far v y hu nu
  · by_cases hj : j < vs.length
    · rw [List.getElem?_append_left hj] at hb'
      rw [List.getElem?_append_left (by omega)] at ha
      exact h4 i j a b hij ha hb' g hg hgb
    · obtain ⟨rfl, rfl⟩ := last j b hj hb'
      rw [List.getElem?_append_left (by omega)] at ha
      obtain ⟨x, hx⟩ : ∃ x, bs[i]? = some x := ⟨_, List.getElem?_eq_getElem (by omega)⟩
      have := (g3 i a x ha hx).1.lt g hg
      have := nb g hgb
      omega
theorem RowsR.set (h : RowsR w0 w q X bv bs) (i : Nat) (u : Value) : RowsR w0 (w.setCell ⟨q, i, none⟩ u) q (X.setIfInBounds i u) bv bs := by
  have k : Only [q] w (w.setCell ⟨q, i, none⟩ u) := (Only.refl [q] w).setCell (.inl (by simp)) _
  obtain ⟨vs, h1, h2, h3, h4⟩ := h.r
  have nq : ∀ g, w0.heap.size ≤ g → g ∉ [q] := fun g hg hq => by have := h.ql; simp at hq; omega
  exact ⟨h.b.set i u, ⟨vs, h1.only k (fun g hg => nq g (h.new g hg)), h2, fun j v x hv hx => ⟨(h3 j v x hv hx).1.only k (fun g hg => nq g ((h3 j v x hv hx).2 g hg).1), (h3 j v x hv hx).2⟩, h4⟩, h.new, h.o.trans k, h.ql⟩
end
theorem run_slm (a : Addr) (n c : Nat) (w : World) : (Instr.buildSlice 26 1 #[(0, .slice (some a) n c)]).run Tryd.prog w = .ok (.slice (some ⟨w.heap.size, 0, none⟩) 1 1) (w.alloc (.cells (cellsG slC [((some a, n, c) : SlV)]).toArray 24)) := by kernel_rfl
/-- What make makes. -/
theorem rowI_made (n : Nat) (hn : n ≤ 1000000) (w : World) : RowI (w.alloc (.cells (madeCells #[.int .i64 0] n) 3)) (.slice (some ⟨w.heap.size, 0, none⟩) n n) (List.replicate n 0) := by
  refine ⟨by simp, .inr ⟨w.heap.size, n, _, by simp, Nat.zero_le _, heap_alloc_new w _, by simp, by unfold maxLen; omega, by simp [madeCells], ?_⟩⟩
  rw [made_zeros]
  simp
end Go.Proofs.YtpmmnjeomdjakaaDoor

end
section
set_option maxRecDepth 20000
namespace Go.Proofs.YtpmmnjeomdjakaaDoor
open Go.RowKit
set_option linter.unusedVariables false
set_option linter.unusedSimpArgs false

def zerosB (l : List Cod) : List (List Int) := l.map fun c => List.replicate (sizeI c.1).1.toNat (0 : Int)
theorem sizeI_small (c : Int) : 0 ≤ (sizeI c).1 ∧ (sizeI c).1 ≤ 16 := by
  unfold sizeI
  repeat' split
  all_goals simp
set_option maxRecDepth 1000000 in
set_option maxHeartbeats 8000000 in
theorem pl_blocks (rest : Code) (Q : Exit → Act → World → Prop) (hQ : ∀ c (a : Act) d v w, Q (.panic c) (a.put (some d) v) w → Q (.panic c) a w) (K C : Int) (q : Nat) (rv vv : Value) (la : Option Addr) (lc n : Nat) (L : List Cod) (w : World) (h0 : RowsR w w q (mC (smallM (K, 0, C)) rv vv N0).toArray N0 []) (hw : HoldsG cdC 3 w (.slice la n lc) L) (hq : ∀ a : Addr, la = some a → ¬ a.block = q) (hcat : ∀ y, y ∈ L → 0 ≤ y.1 ∧ y.1 ≤ 4) (hn : n = L.length) (n27 : n ≤ 27) (u0 u1 u2 u3 u4 u6 u8 u9 u10 u11 u12 u13 u14 u15 u16 u17 u18 u19 u20 u21 u22 u23 u24 u25 u26 u27 u28 u29 u30 u31 u32 u33 u34 u35 u36 u37 u38 u39 u40 u41 u42 u43 u44 u45 u46 u47 u48 u49 u50 u51 u52 u53 u54 u55 u56 u57 u58 u59 u60 u61 u62 u63 u64 u65 u66 u67 u68 u69 u70 u71 u72 u73 u74 u75 u76 u77 u78 u79 u80 u81 u82 u83 u84 u85 u86 u87 u88 : Value)
    (hr : ∀ (w' : World) (bv : Value) (v8 v9 v10 v60 v61 v62 v63 v64 v65 v66 v67 v68 v69 v70 v71 v72 v73 v74 v75 v76 v77 v78 v79 v80 v81 : Value), RowsR w w' q (mC (smallM (K, 0, C)) rv vv bv).toArray bv (zerosB L) → rest.wp Tryd.prog Q ⟨#[u0, u1, u2, u3, u4, .pointer (some ⟨q, 0, none⟩), u6, .slice la n lc, v8, v9, v10, u11, u12, u13, u14, u15, u16, u17, u18, u19, u20, u21, u22, u23, u24, u25, u26, u27, u28, u29, u30, u31, u32, u33, u34, u35, u36, u37, u38, u39, u40, u41, u42, u43, u44, u45, u46, u47, u48, u49, u50, u51, u52, u53, u54, u55, u56, u57, u58, u59, v60, v61, v62, v63, v64, v65, v66, v67, v68, v69, v70, v71, v72, v73, v74, v75, v76, v77, v78, v79, v80, v81, u82, u83, u84, u85, u86, u87, u88], []⟩ w') :
    (endWith 1 (dropSeq 5 plB) rest).wp Tryd.prog Q ⟨#[u0, u1, u2, u3, u4, .pointer (some ⟨q, 0, none⟩), u6, .slice la n lc, u8, u9, u10, u11, u12, u13, u14, u15, u16, u17, u18, u19, u20, u21, u22, u23, u24, u25, u26, u27, u28, u29, u30, u31, u32, u33, u34, u35, u36, u37, u38, u39, u40, u41, u42, u43, u44, u45, u46, u47, u48, u49, u50, u51, u52, u53, u54, u55, u56, u57, u58, u59, u60, u61, u62, u63, u64, u65, u66, u67, u68, u69, u70, u71, u72, u73, u74, u75, u76, u77, u78, u79, u80, u81, u82, u83, u84, u85, u86, u87, u88], []⟩ w := by
  conv => arg 2; whnf; arg 2; whnf
  have HR := hid hr
  clear hr
  have H0 := hid h0
  have HL := hid (fun w' (o : Only [q] w w') => hw.only o (fun a m c e => by have e1 := (Value.slice.inj e).1; simp; exact hq a e1))
  have CT := hid hcat
  have HN := hid hn
  have nn : (n : Int) ≤ 27 := by omega
  clear h0 hw hcat hq hn n27
  go_wp2_with fail
  go_loopg [8] n (fun g t wr => ∃ (i : Nat) (bv : Value), i + g = n ∧ t = .int .i64 i ∧ RowsR w wr q (mC (smallM (K, 0, C)) rv vv bv).toArray bv (zerosB (L.take i)))
  case atStart => exact ⟨0, N0, by omega, rfl, by simpa [zerosB] using H0.out⟩
  case round =>
    obtain ⟨i, bv, hi, rfl, hH⟩ := hrel
    have H := hid hH
    have i0 : (0 : Int) ≤ (i : Int) := by omega
    clear hH
    by_cases hg : gk = 0
    · have i1 : ¬ (i : Int) < (n : Int) := by omega
      have HF := hid (show RowsR w wr q (mC (smallM (K, 0, C)) rv vv bv).toArray bv (zerosB L) from by have := H.out; rwa [List.take_of_length_le (by have := HN.out; omega)] at this)
      clear hi hg
      go_wp2_with fail
      exact HR.out _ bv _ _ _ _ _ _ _ _ _ _ _ _ _ _ _ _ _ _ _ _ _ _ _ _ _ HF.out
    · obtain ⟨gg, rfl⟩ : ∃ gg, gk = gg + 1 := ⟨gk - 1, by omega⟩
      have IN := hid (show i + 1 + gg = n by omega)
      have i1 : (i : Int) < (n : Int) := by omega
      obtain ⟨y, hy, T1⟩ := take_oneG L i (by have := HN.out; omega)
      obtain ⟨yb, yo, rfl, hc⟩ := (HL.out _ H.out.o).at hy
      have y0 := hc 0 (.int .u8 y.1) rfl
      rw [Nat.add_zero] at y0
      have CY := CT.out y (List.mem_of_getElem? hy)
      have SZ := hid (rsize_any y.1 wr (by omega) (by omega))
      obtain ⟨m, hm⟩ : ∃ m : Nat, m = (sizeI y.1).1.toNat := ⟨_, rfl⟩
      have sm := sizeI_small y.1
      have hm1 : (sizeI y.1).1 = (m : Int) := by omega
      have MB' := hid (show m ≤ 16 by omega)
      have mb : (m : Int) ≤ 16 := by omega
      have m0 : (0 : Int) ≤ (m : Int) := by omega
      have NX := hid (show zerosB (L.take (i + 1)) = zerosB (L.take i) ++ [List.replicate m 0] from by rw [T1, hm]; simp [zerosB])
      obtain ⟨s2, hs2⟩ : ∃ s, s = (sizeI y.1).2 := ⟨_, rfl⟩
      rw [hm1, ← hs2] at SZ
      clear hi hg hy hc CY hm sm hm1 hs2 T1
      go_wp2_with fail
      refine SZ.out.mono ?_
      rintro e w2 ⟨rfl, o2⟩
      have H2 := hid (H.out.step o2)
      clear o2 y0
      go_upto_region 15 with fail
      refine wp_region_tail (fun w' => Blk w' q 28 (mC (smallM (K, 0, C)) rv vv bv).toArray) 6 8 (by kernel_rfl) rfl (H2.out.step (Only.refl [] w2).drew).b (fun hS => ?_)
      have HD := H2.out.step (Only.refl [] w2).drew
      generalize w2.drew = wd at *
      clear H2
      refine wpAnyT_take 0 (v := ?va0) rfl (by kernel_rfl) (fun _ _ _ h => hQ _ _ _ _ _ h) (Or.inl ⟨by rfl, ?ya0⟩) hS ?ra0
      case ya0 =>
        intro w hSw
        have e27 := hSw.cell (i := 27) (v := bv) rfl
        go_simp
        (try with_reducible rfl)
      (try simp only [Act.put, List.setIfInBounds_toArray, List.set_cons_zero, List.set_cons_succ])
      refine wpAnyT_take 1 (v := ?va1) rfl (by kernel_rfl) (fun _ _ _ h => hQ _ _ _ _ _ h) (Or.inl ⟨by rfl, ?ya1⟩) hS ?ra1
      case ya1 =>
        intro w hSw
        have e27 := hSw.cell (i := 27) (v := bv) rfl
        go_simp
        (try with_reducible rfl)
      (try simp only [Act.put, List.setIfInBounds_toArray, List.set_cons_zero, List.set_cons_succ])
      refine wpAnyT_take 2 (v := ?va2) rfl (by kernel_rfl) (fun _ _ _ h => hQ _ _ _ _ _ h) (Or.inl ⟨by rfl, ?ya2⟩) hS ?ra2
      case ya2 =>
        intro w hSw
        have e27 := hSw.cell (i := 27) (v := bv) rfl
        go_simp
        (try with_reducible rfl)
      (try simp only [Act.put, List.setIfInBounds_toArray, List.set_cons_zero, List.set_cons_succ])
      refine wpAnyT_call 3 rfl (by kernel_rfl) (fun J hJ => ?_)
      refine step_make (by kernel_rfl) 24 (.tmp 77) (.tmp 77) rfl (.int .i64 m) (.int .i64 m) rfl rfl _ _ (run_make_ints m (by have := MB'.out; omega) _) ?_
      have HM := HD.step ((Only.refl [] wd).alloc (.cells (madeCells #[.int .i64 0] m) 3))
      have RM := rowI_made m (by have := MB'.out; omega) wd
      refine hJ.out _ _ HM.b ?_
      clear hJ J
      (try simp only [Act.put, List.setIfInBounds_toArray, List.set_cons_zero, List.set_cons_succ])
      refine wpAnyT_call 4 rfl (by kernel_rfl) (fun J hJ => ?_)
      refine step_bslice (by kernel_rfl) 26 1 #[(0, .tmp 78)] rfl #[(0, .slice (some ⟨wd.heap.size, 0, none⟩) m m)] (by kernel_rfl) _ _ (run_slm _ _ _ _) ?_
      have oL : Only [] (wd.alloc (.cells (madeCells #[.int .i64 0] m) 3)) ((wd.alloc (.cells (madeCells #[.int .i64 0] m) 3)).alloc (.cells (cellsG slC [((some ⟨wd.heap.size, 0, none⟩, m, m) : SlV)]).toArray 24)) := (Only.refl [] _).alloc _
      have HM2 := HM.step oL
      have RM2 := RM.only oL (by simp)
      have LS := holdsG_lit slC_ok (wd.alloc (.cells (madeCells #[.int .i64 0] m) 3)) 24 [((some ⟨wd.heap.size, 0, none⟩, m, m) : SlV)] (by unfold maxLen; simp)
      refine hJ.out _ _ HM2.b ?_
      clear hJ J
      (try simp only [Act.put, List.setIfInBounds_toArray, List.set_cons_zero, List.set_cons_succ])
      refine wpAnyT_call 5 rfl (by kernel_rfl) (fun J hJ => ?_)
      obtain ⟨bv2, u5, run5, H5⟩ := HD.app (((Only.refl [] wd).alloc (.cells (madeCells #[.int .i64 0] m) 3)).trans oL) _ ((some ⟨wd.heap.size, 0, none⟩, m, m) : SlV) (List.replicate m 0) RM2 (fun g hg => by
        simp [ownI, Value.ownBlock, SlV.sl] at hg
        omega) LS (by simp [zerosB, List.length_take]; omega)
      refine step_append_eqM rfl (.tmp 76) (.tmp 79) _ _ rfl _ _ rfl rfl bv2 u5 run5 ?_
      refine hJ.out _ _ H5.b ?_
      clear hJ J
      (try simp only [Act.put, List.setIfInBounds_toArray, List.set_cons_zero, List.set_cons_succ])
      obtain ⟨ba2, bc2, eb⟩ : ∃ a c, bv2 = .slice a (i + 1) c := by
        obtain ⟨vs, r1, r2, _, _⟩ := H5.r
        obtain ⟨a, c, e, _⟩ := r1.holds slC_ok
        rw [r2] at e
        refine ⟨a, c, e.trans ?_⟩
        congr 1
        simp [zerosB, List.length_take]
        have := HN.out
        have := IN.out
        omega
      subst eb
      have HE := hid H5
      have e27 := H5.b.cell (i := 27) (v := bv) rfl
      have f27 := H5.b.frozen 27
      refine wpAnyT_tail _ rfl (by kernel_rfl) ?_
      simp only [List.drop_succ_cons, List.drop_zero]
      clear hS HD HM HM2 RM RM2 LS oL H5 run5
      go_wp2_with fail
      go_roundg gg
      case measure => omega
      case rel => exact ⟨i + 1, .slice ba2 (i + 1) bc2, IN.out, by go_num, by rw [NX.out]; exact HE.out.set 27 _⟩
end Go.Proofs.YtpmmnjeomdjakaaDoor

end
section
set_option maxRecDepth 20000
namespace Go.Proofs.YtpmmnjeomdjakaaDoor
open Go.RowKit
set_option linter.unusedVariables false
set_option linter.unusedSimpArgs false

def zeroPcm : ByteArray := ⟨(List.replicate 384 (0 : UInt8)).toArray⟩
def pcmP (x : MV) : MV := if x.kind = 2 then { x with pcm := zeroPcm } else x
theorem wp_make {P : Program} {w w' : World} {ops : Array Oper} {rest : List Oper} {o : Oper} {a : Act} {Q : Exit → Act → World → Prop} (hg : o.guard = none) (t : TypeId) (l c : Operand) (ho : o.op = .makeSlice t l c)
    (lv cv : Value) (hl : a.eval l = lv) (hc : a.eval c = cv) (v : Value) (W1 : World) (hr : (Instr.makeSlice t lv cv).run P w = .ok v W1) (h : wpList P ops Q rest (a.put o.dst v) W1) : wpList P ops Q (o :: rest) a w := by
  refine wpList_plain hg fun K hK' => ?_
  unfold Oper.wp
  simp [execOp, ho, hl, hc, hr, Result.andThen]
  exact hK' _ _ h
theorem made_byte (n j : Nat) (hj : j < n) : (madeCells #[.int .u8 0] n)[j]? = some (.int .u8 0) := by
  have hs : (madeCells #[.int .u8 0] n).size = n := by simp [madeCells]
  rw [Array.getElem?_eq_getElem (by omega)]
  simp [madeCells, Nat.mod_one]
theorem bytes_made (n : Nat) (hn : n ≤ 100000) (w : World) : ∃ W1, (Instr.makeSlice 61 (.int .i64 (n : Int)) (.int .i64 (n : Int))).run Tryd.prog w = .ok (.slice (some ⟨w.heap.size, 0, none⟩) n n) W1 ∧
    (convert 61 9 (.slice (some ⟨w.heap.size, 0, none⟩) n n)).run Tryd.prog W1 = .ok (.string ⟨(List.replicate n (0 : UInt8)).toArray⟩) W1 ∧ Only [] w W1 := by
  refine ⟨w.alloc (.cells (madeCells #[.int .u8 0] n) 5), run_make_row' 61 5 (.int .u8 0) 1 (by kernel_rfl) (by kernel_rfl) rfl .i64 .i64 n (by omega) (by omega) w, ?_, (Only.refl [] w).alloc _⟩
  have h := run_convert_bytes_back (P := Tryd.prog) (w.alloc (.cells (madeCells #[.int .u8 0] n) 5)) 61 9 5 ⟨w.heap.size, 0, none⟩ n (List.replicate n (0 : UInt8)) (by kernel_rfl) (by kernel_rfl) (by kernel_rfl) (fun j hj => by
    rw [List.length_replicate] at hj
    rw [add_off, Nat.zero_add, List.getElem_replicate]
    exact (Blk.new w 5 _).cell (made_byte n j hj))
  rw [List.length_replicate] at h
  exact h
theorem pcm_made (w : World) : ∃ W1, (Instr.makeSlice 61 (.int .i64 384) (.int .i64 384)).run Tryd.prog w = .ok (.slice (some ⟨w.heap.size, 0, none⟩) 384 384) W1 ∧
    (convert 61 9 (.slice (some ⟨w.heap.size, 0, none⟩) 384 384)).run Tryd.prog W1 = .ok (.string zeroPcm) W1 ∧ Only [] w W1 := bytes_made 384 (by omega) w
set_option maxRecDepth 1000000 in
set_option maxHeartbeats 8000000 in
theorem pl_pcm (rest : Code) (Q : Exit → Act → World → Prop)  (x : MV) (rv vv bv : Value) (q : Nat) (w : World) (hB : Blk w q 28 (mC x rv vv bv).toArray) (u0 u1 u2 u3 u4 u6 u7 u8 u9 u10 u11 u12 u13 u14 u15 u16 u17 u18 u19 u20 u21 u22 u23 u24 u25 u26 u27 u28 u29 u30 u31 u32 u33 u34 u35 u36 u37 u38 u39 u40 u41 u42 u43 u44 u45 u46 u47 u48 u49 u50 u51 u52 u53 u54 u55 u56 u57 u58 u59 u60 u61 u62 u63 u64 u65 u66 u67 u68 u69 u70 u71 u72 u73 u74 u75 u76 u77 u78 u79 u80 u81 u82 u83 u84 u85 u86 u87 u88 : Value)
    (hr : ∀ (w' : World) (v82 v83 v84 v85 v86 v87 : Value), Blk w' q 28 (mC (pcmP x) rv vv bv).toArray → Only [q] w w' → rest.wp Tryd.prog Q ⟨#[u0, u1, u2, u3, u4, .pointer (some ⟨q, 0, none⟩), u6, u7, u8, u9, u10, u11, u12, u13, u14, u15, u16, u17, u18, u19, u20, u21, u22, u23, u24, u25, u26, u27, u28, u29, u30, u31, u32, u33, u34, u35, u36, u37, u38, u39, u40, u41, u42, u43, u44, u45, u46, u47, u48, u49, u50, u51, u52, u53, u54, u55, u56, u57, u58, u59, u60, u61, u62, u63, u64, u65, u66, u67, u68, u69, u70, u71, u72, u73, u74, u75, u76, u77, u78, u79, u80, u81, v82, v83, v84, v85, v86, v87, u88], []⟩ w') :
    (endWith 1 (dropSeq 6 plB) rest).wp Tryd.prog Q ⟨#[u0, u1, u2, u3, u4, .pointer (some ⟨q, 0, none⟩), u6, u7, u8, u9, u10, u11, u12, u13, u14, u15, u16, u17, u18, u19, u20, u21, u22, u23, u24, u25, u26, u27, u28, u29, u30, u31, u32, u33, u34, u35, u36, u37, u38, u39, u40, u41, u42, u43, u44, u45, u46, u47, u48, u49, u50, u51, u52, u53, u54, u55, u56, u57, u58, u59, u60, u61, u62, u63, u64, u65, u66, u67, u68, u69, u70, u71, u72, u73, u74, u75, u76, u77, u78, u79, u80, u81, u82, u83, u84, u85, u86, u87, u88], []⟩ w := by
  conv => arg 2; whnf; arg 2; whnf
  have HR := hid hr
  clear hr
  have BX := hid hB
  have m0 := hB.cell (i := 0) (v := .int .u8 x.kind) rfl
  obtain ⟨W1, hmk, hcv, o1⟩ := pcm_made w
  have BS := hid (show ∀ v, Blk (W1.setCell ⟨q, 28, none⟩ v) q 28 ((mC x rv vv bv).toArray.setIfInBounds 28 v) from fun v => (hB.only o1 (by simp)).set 28 v)
  have m28 := (hB.only o1 (by simp)).cell (i := 28) (v := .string x.pcm) rfl
  have f28 := (hB.only o1 (by simp)).frozen 28
  have MK := hid hmk
  have O1 := hid o1
  clear hB o1
  unfold pcmP at HR
  by_cases h : x.kind = 2
  · rw [if_pos h] at HR
    have hb : (x.kind == 2) = true := by simpa using h
    clear h
    go_wp2_with fail
    exact HR.out _ _ _ _ _ _ _ (BS.out _) ((O1.out.mono (fun _ _ h => by cases h)).setCell (.inl (by simp)) _)
  · rw [if_neg h] at HR
    have hb : (x.kind == 2) = false := by simpa using h
    clear h hcv hmk m28 f28
    go_wp2_with fail
    exact HR.out _ _ _ _ _ _ _ BX.out (Only.refl _ _)
end Go.Proofs.YtpmmnjeomdjakaaDoor

end
section
set_option maxRecDepth 20000
namespace Go.Proofs.YtpmmnjeomdjakaaDoor
open Go.RowKit
set_option linter.unusedVariables false
set_option linter.unusedSimpArgs false

set_option maxRecDepth 1000000 in
set_option maxHeartbeats 8000000 in
theorem pl_refs (rest : Code) (Q : Exit → Act → World → Prop) (hQ : ∀ c (a : Act) d v w, Q (.panic c) (a.put (some d) v) w → Q (.panic c) a w) (K C : Int) (q : Nat) (w : World) (k0 : 0 ≤ K) (k7 : K ≤ 7) (h0 : TwoR w w q (mC (smallM (K, 0, C)) N0 N0 N0).toArray N0 N0 [] []) (u0 u1 u2 u3 u4 u6 u7 u8 u9 u10 u11 u12 u13 u14 u15 u16 u17 u18 u19 u20 u21 u22 u23 u24 u25 u26 u27 u28 u29 u30 u31 u32 u33 u34 u35 u36 u37 u38 u39 u40 u41 u42 u43 u44 u45 u46 u47 u48 u49 u50 u51 u52 u53 u54 u55 u56 u57 u58 u59 u60 u61 u62 u63 u64 u65 u66 u67 u68 u69 u70 u71 u72 u73 u74 u75 u76 u77 u78 u79 u80 u81 u82 u83 u84 u85 u86 u87 u88 : Value)
    (hr : ∀ (w' : World) (rv vv : Value) (v6 v32 v33 v34 v35 v36 v37 v38 v39 v40 v41 v42 v43 v44 v45 v46 v47 v48 v49 v50 v51 v52 v53 v54 v55 v56 v57 : Value), TwoR w w' q (mC (smallM (K, 0, C)) rv vv N0).toArray rv vv (List.replicate (nRef K) 0) (List.replicate (nRef K) (0, 0)) → rest.wp Tryd.prog Q ⟨#[u0, u1, u2, u3, u4, .pointer (some ⟨q, 0, none⟩), v6, u7, u8, u9, u10, u11, u12, u13, u14, u15, u16, u17, u18, u19, u20, u21, u22, u23, u24, u25, u26, u27, u28, u29, u30, u31, v32, v33, v34, v35, v36, v37, v38, v39, v40, v41, v42, v43, v44, v45, v46, v47, v48, v49, v50, v51, v52, v53, v54, v55, v56, v57, u58, u59, u60, u61, u62, u63, u64, u65, u66, u67, u68, u69, u70, u71, u72, u73, u74, u75, u76, u77, u78, u79, u80, u81, u82, u83, u84, u85, u86, u87, u88], []⟩ w') :
    (endWith 1 (dropSeq 3 plB) rest).wp Tryd.prog Q ⟨#[u0, u1, u2, u3, u4, .pointer (some ⟨q, 0, none⟩), u6, u7, u8, u9, u10, u11, u12, u13, u14, u15, u16, u17, u18, u19, u20, u21, u22, u23, u24, u25, u26, u27, u28, u29, u30, u31, u32, u33, u34, u35, u36, u37, u38, u39, u40, u41, u42, u43, u44, u45, u46, u47, u48, u49, u50, u51, u52, u53, u54, u55, u56, u57, u58, u59, u60, u61, u62, u63, u64, u65, u66, u67, u68, u69, u70, u71, u72, u73, u74, u75, u76, u77, u78, u79, u80, u81, u82, u83, u84, u85, u86, u87, u88], []⟩ w := by
  by_cases h3 : K = 3
  · subst h3
    exact pl_refs3 rest Q hQ C q w h0 _ _ _ _ _ _ _ _ _ _ _ _ _ _ _ _ _ _ _ _ _ _ _ _ _ _ _ _ _ _ _ _ _ _ _ _ _ _ _ _ _ _ _ _ _ _ _ _ _ _ _ _ _ _ _ _ _ _ _ _ _ _ _ _ _ _ _ _ _ _ _ _ _ _ _ _ _ _ _ _ _ _ _ _ _ _ _ _ hr
  by_cases h4 : K = 4
  · subst h4
    exact pl_refs4 rest Q hQ C q w h0 _ _ _ _ _ _ _ _ _ _ _ _ _ _ _ _ _ _ _ _ _ _ _ _ _ _ _ _ _ _ _ _ _ _ _ _ _ _ _ _ _ _ _ _ _ _ _ _ _ _ _ _ _ _ _ _ _ _ _ _ _ _ _ _ _ _ _ _ _ _ _ _ _ _ _ _ _ _ _ _ _ _ _ _ _ _ _ _ hr
  by_cases h5 : K = 5
  · subst h5
    exact pl_refs5 rest Q hQ C q w h0 _ _ _ _ _ _ _ _ _ _ _ _ _ _ _ _ _ _ _ _ _ _ _ _ _ _ _ _ _ _ _ _ _ _ _ _ _ _ _ _ _ _ _ _ _ _ _ _ _ _ _ _ _ _ _ _ _ _ _ _ _ _ _ _ _ _ _ _ _ _ _ _ _ _ _ _ _ _ _ _ _ _ _ _ _ _ _ _ hr
  by_cases h6 : K = 6
  · subst h6
    exact pl_refs6 rest Q hQ C q w h0 _ _ _ _ _ _ _ _ _ _ _ _ _ _ _ _ _ _ _ _ _ _ _ _ _ _ _ _ _ _ _ _ _ _ _ _ _ _ _ _ _ _ _ _ _ _ _ _ _ _ _ _ _ _ _ _ _ _ _ _ _ _ _ _ _ _ _ _ _ _ _ _ _ _ _ _ _ _ _ _ _ _ _ _ _ _ _ _ hr
  have e : nRef K = 0 := by unfold nRef; rw [if_neg h3, if_neg (by omega), if_neg h6]
  rw [e] at hr
  exact pl_refs0 rest Q K C q w (by unfold interI; simp; omega) h0 _ _ _ _ _ _ _ _ _ _ _ _ _ _ _ _ _ _ _ _ _ _ _ _ _ _ _ _ _ _ _ _ _ _ _ _ _ _ _ _ _ _ _ _ _ _ _ _ _ _ _ _ _ _ _ _ _ _ _ _ _ _ _ _ _ _ _ _ _ _ _ _ _ _ _ _ _ _ _ _ _ _ _ _ _ _ _ _ hr
def plainM (K c : Int) : MV := pcmP { smallM (K, 0, cbpP K c) with refs := List.replicate (nRef K) 0, mvds := List.replicate (nRef K) (0, 0), blocks := zerosB (whichL (smallM (K, 0, cbpP K c))) }
/-- A macroblock whose lists are new since w0, and lie apart. -/
structure OwnA (w0 w : World) (x : MV) (rv vv bv : Value) : Prop where
  m : OwnM w0 w x rv vv bv
  rvv : ∀ g, g ∈ ownG vv → g ∉ ownG rv
  b : ∃ vs : List SlV, vs.length = x.blocks.length ∧ HoldsG slC 1 w bv vs ∧ (∀ (j : Nat) (v : SlV), vs[j]? = some v → ∀ g, g ∈ ownI rv → g ∉ ownI v.sl) ∧ (∀ (i j : Nat) (u v : SlV), i < j → vs[i]? = some u → vs[j]? = some v → ∀ g, g ∈ ownI u.sl → g ∉ ownI v.sl)
theorem cells_er : ∀ l : List Int, cellsG erC l = l.map (.int .i64)
  | [] => rfl
  | a :: r => by rw [cellsG, cells_er r]; rfl
theorem rowI_of {w : World} {sv : Value} {l : List Int} (h : RowG erC 1 3 w sv l) : RowI w sv l := by
  have h' : w.ownsRow 0 3 1 sv l.length (cellsG erC l) := h
  rw [cells_er] at h'
  exact h'
theorem ownI_G (v : Value) : ownI v = ownG v := by unfold ownI ownG; cases v.ownBlock <;> rfl
theorem cbpP_in (K c : Int) (c0 : 0 ≤ c) (c1 : c ≤ 255) : 0 ≤ cbpP K c ∧ cbpP K c ≤ 255 := by
  unfold cbpP
  split
  · split <;> omega
  · omega
set_option maxRecDepth 1000000 in
set_option maxHeartbeats 8000000 in
theorem plain_any (k c : Int) (w : World) (k0 : 0 ≤ k) (k1 : k ≤ 255) (c0 : 0 ≤ c) (c1 : c ≤ 255) : Calls Tryd.prog 17 #[.int .u8 k, .int .u8 c] w fun e w' => ∃ rv vv bv, e = .returned (mV (plainM (k % 8) c) rv vv bv) ∧ OwnA w w' (plainM (k % 8) c) rv vv bv := by
  go_enter Tryd.func17, Tryd.ntmps17
  generalize hq : (Code.seq _ _) = cc
  have hcc : cc = endWith 2 plB (dropSeq 2 plB) := by rw [← hq]; kernel_rfl
  rw [hcc]
  clear hq hcc
  refine pl_new _ _ k c w k0 k1 _ _ _ _ _ _ _ _ _ _ _ _ _ _ _ _ _ _ _ _ _ _ _ _ _ _ _ _ _ _ _ _ _ _ _ _ _ _ _ _ _ _ _ _ _ _ _ _ _ _ _ _ _ _ _ _ _ _ _ _ _ _ _ _ _ _ _ _ _ _ _ _ _ _ _ _ _ _ _ _ _ _ _ _ _ _ _ (fun w1 p v0 v10 v11 v12 v13 b0 b1 o1 hp => ?_)
  obtain ⟨K, hK⟩ : ∃ K, K = k % 8 := ⟨_, rfl⟩
  have K0 : 0 ≤ K := by omega
  have K7 : K ≤ 7 := by omega
  obtain ⟨q, hq⟩ : ∃ q, q = p + 1 := ⟨_, rfl⟩
  rw [← hK] at b1 ⊢
  rw [← hq] at b1 ⊢
  have q1 := b1.lt
  rw [show dropSeq 2 plB = endWith 1 (dropSeq 2 plB) (dropSeq 3 plB) from by kernel_rfl]
  refine pl_cbp _ _ K c q w1 K0 K7 c0 c1 b1 _ _ _ _ _ _ _ _ _ _ _ _ _ _ _ _ _ _ _ _ _ _ _ _ _ _ _ _ _ _ _ _ _ _ _ _ _ _ _ _ _ _ _ _ _ _ _ _ _ _ _ _ _ _ _ _ _ _ _ _ _ _ _ _ _ _ _ _ _ _ _ _ _ _ _ _ _ _ _ _ _ _ _ _ _ _ _ (fun w2 v14 v15 v16 v17 v18 v19 v20 v21 v22 v23 v24 v25 v26 v27 v28 v29 v30 v31 b2 o2 => ?_)
  have C := cbpP_in K c c0 c1
  have q2 := b2.lt
  rw [show dropSeq 3 plB = endWith 1 (dropSeq 3 plB) (dropSeq 4 plB) from by kernel_rfl]
  refine pl_refs _ _ (fun _ _ _ _ _ h => h) K (cbpP K c) q w2 K0 K7 ⟨b2, RowG.nil _, RowG.nil _, by simp [ownG, Value.ownBlock, N0], by simp [ownG, Value.ownBlock, N0], by simp [ownG, Value.ownBlock, N0], Only.refl _ _, q2⟩ _ _ _ _ _ _ _ _ _ _ _ _ _ _ _ _ _ _ _ _ _ _ _ _ _ _ _ _ _ _ _ _ _ _ _ _ _ _ _ _ _ _ _ _ _ _ _ _ _ _ _ _ _ _ _ _ _ _ _ _ _ _ _ _ _ _ _ _ _ _ _ _ _ _ _ _ _ _ _ _ _ _ _ _ _ _ _ _ (fun w3 rv vv v6 v32 v33 v34 v35 v36 v37 v38 v39 v40 v41 v42 v43 v44 v45 v46 v47 v48 v49 v50 v51 v52 v53 v54 v55 v56 v57 T3 => ?_)
  rw [show dropSeq 4 plB = endWith 1 (dropSeq 4 plB) (dropSeq 5 plB) from by kernel_rfl]
  refine pl_list _ _ K (cbpP K c) q rv vv w3 ⟨K0, by omega⟩ C T3.b _ _ _ _ _ _ _ _ _ _ _ _ _ _ _ _ _ _ _ _ _ _ _ _ _ _ _ _ _ _ _ _ _ _ _ _ _ _ _ _ _ _ _ _ _ _ _ _ _ _ _ _ _ _ _ _ _ _ _ _ _ _ _ _ _ _ _ _ _ _ _ _ _ _ _ _ _ _ _ _ _ _ _ _ _ _ _ _ (fun w4 sv v58 v59 C4 => ?_)
  obtain ⟨la, lc, e, _⟩ := id (C4.row.holds cdC_ok)
  subst e
  obtain ⟨n, hn⟩ : ∃ n, n = (whichL (smallM (K, 0, cbpP K c))).length := ⟨_, rfl⟩
  have hw := C4.row.holds cdC_ok
  have ls := C4.new
  rw [← hn] at hw ls ⊢
  have s23 := T3.o.size
  have q4 : q < w4.heap.size := by have := C4.only.size; omega
  rw [show dropSeq 5 plB = endWith 1 (dropSeq 5 plB) (dropSeq 6 plB) from by kernel_rfl]
  refine pl_blocks _ _ (fun _ _ _ _ _ h => h) K (cbpP K c) q rv vv la lc n (whichL (smallM (K, 0, cbpP K c))) w4 ⟨T3.b.only C4.only (by simp), ⟨[], RowG.nil _, rfl, fun j v x hv => by simp at hv, fun i j u v hij hu => by simp at hu⟩, by simp [ownG, Value.ownBlock, N0], Only.refl _ _, q4⟩ hw (fun a ha hh => by subst ha; have := ls a.block (by simp [ownG, Value.ownBlock]); omega) (fun y hy => blocksL_cat _ _ y hy) hn (by rw [hn]; exact blocksL_len _ _) _ _ _ _ _ _ _ _ _ _ _ _ _ _ _ _ _ _ _ _ _ _ _ _ _ _ _ _ _ _ _ _ _ _ _ _ _ _ _ _ _ _ _ _ _ _ _ _ _ _ _ _ _ _ _ _ _ _ _ _ _ _ _ _ _ _ _ _ _ _ _ _ _ _ _ _ _ _ _ _ _ _ _ _ _ _ _ (fun w5 bv v8 v9 v10 v60 v61 v62 v63 v64 v65 v66 v67 v68 v69 v70 v71 v72 v73 v74 v75 v76 v77 v78 v79 v80 v81 R5 => ?_)
  obtain ⟨x, hx⟩ : ∃ x : MV, x = { smallM (K, 0, cbpP K c) with refs := List.replicate (nRef K) 0, mvds := List.replicate (nRef K) (0, 0), blocks := zerosB (whichL (smallM (K, 0, cbpP K c))) } := ⟨_, rfl⟩
  have b5 : Blk w5 q 28 (mC x rv vv bv).toArray := by rw [hx]; exact R5.b
  rw [show dropSeq 6 plB = endWith 1 (dropSeq 6 plB) (dropSeq 7 plB) from by kernel_rfl]
  refine pl_pcm _ _ x rv vv bv q w5 b5 _ _ _ _ _ _ _ _ _ _ _ _ _ _ _ _ _ _ _ _ _ _ _ _ _ _ _ _ _ _ _ _ _ _ _ _ _ _ _ _ _ _ _ _ _ _ _ _ _ _ _ _ _ _ _ _ _ _ _ _ _ _ _ _ _ _ _ _ _ _ _ _ _ _ _ _ _ _ _ _ _ _ _ _ _ _ _ _ (fun w6 v82 v83 v84 v85 v86 v87 b6 o6 => ?_)
  have px : pcmP x = plainM K c := by rw [hx]; rfl
  rw [px] at b6
  have k36 : Only [q] w3 w6 := (C4.only.mono (fun _ _ h => by cases h)).trans (R5.o.trans o6)
  have k16 : Only [q] w1 w6 := o2.trans (T3.o.trans k36)
  have B0 := hid (show Blk w6 p 28 (mC (smallM (0, 0, 0)) N0 N0 N0).toArray from b0.only k16 (by simp; omega))
  have B6 := hid b6
  have p1 := b0.lt
  obtain ⟨y, hy⟩ : ∃ y, y = plainM K c := ⟨_, rfl⟩
  rw [← hy] at B6 ⊢
  have one := (⟨T3.r.holds erC_ok, T3.v.holds vcC_ok, R5.r⟩ : HoldsG erC 1 w3 rv _ ∧ HoldsG vcC 2 w3 vv _ ∧ _)
  obtain ⟨ra, rc, e1, _⟩ := one.1
  obtain ⟨va, vc, e2, _⟩ := one.2.1
  obtain ⟨ba, bc, e3⟩ : ∃ (a : Option Addr) (d : Nat), bv = .slice a (zerosB (whichL (smallM (K, 0, cbpP K c)))).length d := by
    obtain ⟨vs, r1, r2, _⟩ := R5.r
    obtain ⟨a, d, e, _⟩ := r1.holds slC_ok
    exact ⟨a, d, by rw [e, r2]⟩
  have O1 := hid (one_mC y (rv := rv) (vv := vv) (bv := bv) (by rw [e1]; rfl) (by rw [e2]; rfl) (by rw [e3]; rfl))
  have FIN := hid (show ∀ w7, Only [p] w6 w7 → OwnA w w7 y rv vv bv from fun w7 o7 => by
    have k37 : Only [q, p] w3 w7 := (k36.mono (fun g _ h => by simp at h ⊢; exact .inl h)).trans (o7.mono (fun g _ h => by simp at h ⊢; exact .inr h))
    have k57 : Only [q, p] w5 w7 := (o6.mono (fun g _ h => by simp at h ⊢; exact .inl h)).trans (o7.mono (fun g _ h => by simp at h ⊢; exact .inr h))
    have k17 : Only [q, p] w1 w7 := (k16.mono (fun g _ h => by simp at h ⊢; exact .inl h)).trans (o7.mono (fun g _ h => by simp at h ⊢; exact .inr h))
    have k07 : Only [] w w7 := o1.trans2 k17 (fun g hg => .inr (by simp at hg; omega))
    have sw1 := o1.size
    have s12 := o2.size
    have sw2 : w.heap.size ≤ w2.heap.size := by omega
    have sw4 : w2.heap.size ≤ w4.heap.size := by have := C4.only.size; omega
    have nq : ∀ g, w2.heap.size ≤ g → g ∉ [q, p] := fun g hg hh => by simp at hh; omega
    have er : y.refs = List.replicate (nRef K) 0 := by rw [hy, ← px, hx]; unfold pcmP; split <;> rfl
    have ev : y.mvds = List.replicate (nRef K) (0, 0) := by rw [hy, ← px, hx]; unfold pcmP; split <;> rfl
    have eb : y.blocks = zerosB (whichL (smallM (K, 0, cbpP K c))) := by rw [hy, ← px, hx]; unfold pcmP; split <;> rfl
    obtain ⟨vs, r1, r2, r3, r4⟩ := R5.r
    have nb3 : ∀ g, g ∈ ownI rv → g < w3.heap.size := fun g hg => T3.r.lt g (ownI_G rv ▸ hg)
    have nb4 : w3.heap.size ≤ w4.heap.size := C4.only.size
    refine ⟨⟨by rw [er]; exact rowI_of (T3.r.only k37 (fun g hg => nq g (T3.rn g hg))), fun g hg => Nat.le_trans sw2 (T3.rn g (ownI_G rv ▸ hg)), by rw [ev]; exact T3.v.only k37 (fun g hg => nq g (T3.vn g hg)), fun g hg => Nat.le_trans sw2 (T3.vn g hg), by
    rw [eb]
    exact ⟨vs, ⟨r1.only k57 (fun g hg => nq g (Nat.le_trans sw4 (R5.new g hg))), fun g hg => Nat.le_trans sw2 (Nat.le_trans sw4 (R5.new g hg)), k07⟩, r2, fun j v z hv hz => ⟨(r3 j v z hv hz).1.only k57 (fun g hg => nq g (Nat.le_trans sw4 ((r3 j v z hv hz).2 g hg).1)), fun g hg => ⟨Nat.le_trans sw2 (Nat.le_trans sw4 ((r3 j v z hv hz).2 g hg).1), ((r3 j v z hv hz).2 g hg).2⟩⟩⟩⟩, fun g hg => ?_, vs, ?_, ?_, fun j v hv g hg h => ?_, r4⟩
    · exact T3.ap g hg
    · rw [eb]; exact r2
    · exact (r1.only k57 (fun g hg => nq g (Nat.le_trans sw4 (R5.new g hg)))).holds slC_ok
    · obtain ⟨z, hz⟩ : ∃ z, (zerosB (whichL (smallM (K, 0, cbpP K c))))[j]? = some z := ⟨_, List.getElem?_eq_getElem (by rw [← r2]; exact (List.getElem?_eq_some_iff.1 hv).1)⟩
      have := ((r3 j v z hv hz).2 g h).1
      have := nb3 g hg
      omega)
  have HY := hid (show plainM (k % 8) c = y from by rw [hy, hK])
  clear one e1 e2 e3 k36 k16 b0 b1 b2 b5 b6 o1 o2 o6 T3 C4 R5 hw ls C
  conv => arg 2; whnf
  go_wp2_with (first
    | (refine load_atA rfl 28 (.tmp 5) rfl ⟨q, 0, none⟩ (mC y rv vv bv) rfl B6.out.mb ?_; simp only [Act.put, List.setIfInBounds_toArray, List.set_cons_zero, List.set_cons_succ])
    | (refine store_blk rfl 28 (.tmp 4) (.tmp 88) rfl p 0 _ _ (mC y rv vv bv) rfl rfl (info_mb' _ _ _ _) B0.out (by simp [mC]) O1.out ?_; intro w7 hB7 hO7))
  rw [setsA_full (by simp [mC])] at hB7
  refine bodyPost_ret (v := mV y rv vv bv) (res_c rfl rfl (lv_mb hB7)) rfl ⟨rv, vv, bv, by rw [HY.out], by rw [HY.out]; exact FIN.out w7 hO7⟩
end Go.Proofs.YtpmmnjeomdjakaaDoor

end

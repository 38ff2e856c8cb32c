/- Plain: the macroblock and its Cbp. -/
/- Two slices that a call appends to, beside a struct that holds them; regions that draw: one of two comes up. -/
/- Plain: Refs and Mvds (one kind). -/
import Derived.Test.YtpmmnjeomdjakaaDoorMmb18
section
set_option maxRecDepth 20000
namespace Go.Proofs.YtpmmnjeomdjakaaDoor
open Go.RowKit
set_option linter.unusedVariables false
set_option linter.unusedSimpArgs false

noncomputable def plB : Code := Tryd.f17.body.getD .skip
def cbpP (k c : Int) : Int := if codedI k = true then (if k = 1 then c % 3 * 16 + c / 3 % 2 * 15 else c % 48) else 0
def nRef (k : Int) : Nat := if k = 3 then 1 else if k = 4 ∨ k = 5 then 2 else if k = 6 then 4 else 0
set_option maxRecDepth 1000000 in
set_option maxHeartbeats 8000000 in
theorem pl_new (rest : Code) (Q : Exit → Act → World → Prop)  (k c : Int) (w : World) (k0 : 0 ≤ k) (k1 : k ≤ 255) (u2 u3 u4 u5 u6 u7 u8 u9 u10 u11 u12 u13 u14 u15 u16 u17 u18 u19 u20 u21 u22 u23 u24 u25 u26 u27 u28 u29 u30 u31 u32 u33 u34 u35 u36 u37 u38 u39 u40 u41 u42 u43 u44 u45 u46 u47 u48 u49 u50 u51 u52 u53 u54 u55 u56 u57 u58 u59 u60 u61 u62 u63 u64 u65 u66 u67 u68 u69 u70 u71 u72 u73 u74 u75 u76 u77 u78 u79 u80 u81 u82 u83 u84 u85 u86 u87 u88 : Value)
    (hr : ∀ (w' : World) (p : Nat) (v0 v10 v11 v12 v13 : Value), Blk w' p 28 (mC (smallM (0, 0, 0)) N0 N0 N0).toArray → Blk w' (p + 1) 28 (mC (smallM (k % 8, 0, 0)) N0 N0 N0).toArray → Only [] w w' → w.heap.size ≤ p → rest.wp Tryd.prog Q ⟨#[v0, .int .u8 c, u2, u3, .pointer (some ⟨p, 0, none⟩), .pointer (some ⟨p + 1, 0, none⟩), u6, u7, u8, u9, v10, v11, v12, v13, u14, u15, u16, u17, u18, u19, u20, u21, u22, u23, u24, u25, u26, u27, u28, u29, u30, u31, u32, u33, u34, u35, u36, u37, u38, u39, u40, u41, u42, u43, u44, u45, u46, u47, u48, u49, u50, u51, u52, u53, u54, u55, u56, u57, u58, u59, u60, u61, u62, u63, u64, u65, u66, u67, u68, u69, u70, u71, u72, u73, u74, u75, u76, u77, u78, u79, u80, u81, u82, u83, u84, u85, u86, u87, u88], []⟩ w') :
    (endWith 2 plB rest).wp Tryd.prog Q ⟨#[.int .u8 k, .int .u8 c, u2, u3, u4, u5, u6, u7, u8, u9, u10, u11, u12, u13, u14, u15, u16, u17, u18, u19, u20, u21, u22, u23, u24, u25, u26, u27, u28, u29, u30, u31, u32, u33, u34, u35, u36, u37, u38, u39, u40, u41, u42, u43, u44, u45, u46, u47, u48, u49, u50, u51, u52, u53, u54, u55, u56, u57, u58, u59, u60, u61, u62, u63, u64, u65, u66, u67, u68, u69, u70, u71, u72, u73, u74, u75, u76, u77, u78, u79, u80, u81, u82, u83, u84, u85, u86, u87, u88], []⟩ w := by
  conv => arg 2; whnf; arg 2; whnf; arg 2; whnf
  have HR := hid hr
  clear hr
  obtain ⟨W1, hW1⟩ : ∃ W, W = w.alloc (.cells (mC (smallM (0, 0, 0)) N0 N0 N0).toArray 28) := ⟨_, rfl⟩
  obtain ⟨p, hp⟩ : ∃ q, q = w.heap.size := ⟨_, rfl⟩
  have hp1 : p + 1 = W1.heap.size := by rw [hW1, hp]; exact (World.size_alloc _ _).symm
  have o1 : Only [] w W1 := hW1 ▸ ((Only.refl [] w).alloc _)
  have B0 := hid (show Blk W1 p 28 (mC (smallM (0, 0, 0)) N0 N0 N0).toArray from by
    have := Blk.new w 28 (mC (smallM (0, 0, 0)) N0 N0 N0).toArray
    rwa [← hW1, ← hp] at this)
  have OW := hid o1
  have PW := hid (show w.heap.size ≤ p from by omega)
  have H1 := hid hW1
  have HP := hid hp
  have HP1 := hid hp1
  clear hW1 hp1 o1
  go_upto_region 1 with fail
  generalize hw : w.alloc _ = W
  obtain rfl : W1 = W := H1.out.trans hw
  rw [← hp]
  clear hw hp
  go_upto_region 2 with (first
    | (refine wp_buildM (by kernel_rfl) 28 #[(0, .tmp 12)] rfl #[(0, .int .u8 (k % 8))] (by kernel_rfl) (mV (smallM (k % 8, 0, 0)) N0 N0 N0) (bm_k _ _) ?_; simp only [Act.put, List.setIfInBounds_toArray, List.set_cons_zero, List.set_cons_succ])
    | (refine store_blk rfl 28 (.tmp 5) (.tmp 13) rfl W1.heap.size 0 _ _ (mC (smallM (k % 8, 0, 0)) N0 N0 N0) rfl rfl (info_mb' _ _ _ _) (Blk.new W1 _ _) (by simp [mC]) (one_mC _ rfl rfl rfl) ?_; intro W2 hB2 hO2))
  rw [setsA_full (by simp [mC])] at hB2
  have o2 : Only [] W1 W2 := ((Only.refl [] W1).alloc _).trans2 hO2 (fun g hg => .inr (by simp at hg; omega))
  rw [← HP1.out] at hB2 ⊢
  exact HR.out W2 p _ _ _ _ _ (B0.out.only o2 (by simp)) hB2 (OW.out.trans o2) PW.out
set_option maxRecDepth 1000000 in
set_option maxHeartbeats 8000000 in
theorem pl_cbp (rest : Code) (Q : Exit → Act → World → Prop)  (K c : Int) (q : Nat) (w : World) (k0 : 0 ≤ K) (k1 : K ≤ 7) (c0 : 0 ≤ c) (c1 : c ≤ 255) (hB : Blk w q 28 (mC (smallM (K, 0, 0)) N0 N0 N0).toArray) (u0 u2 u3 u4 u6 u7 u8 u9 u10 u11 u12 u13 u14 u15 u16 u17 u18 u19 u20 u21 u22 u23 u24 u25 u26 u27 u28 u29 u30 u31 u32 u33 u34 u35 u36 u37 u38 u39 u40 u41 u42 u43 u44 u45 u46 u47 u48 u49 u50 u51 u52 u53 u54 u55 u56 u57 u58 u59 u60 u61 u62 u63 u64 u65 u66 u67 u68 u69 u70 u71 u72 u73 u74 u75 u76 u77 u78 u79 u80 u81 u82 u83 u84 u85 u86 u87 u88 : Value)
    (hr : ∀ (w' : World) (v14 v15 v16 v17 v18 v19 v20 v21 v22 v23 v24 v25 v26 v27 v28 v29 v30 v31 : Value), Blk w' q 28 (mC (smallM (K, 0, (cbpP K c))) N0 N0 N0).toArray → Only [q] w w' → rest.wp Tryd.prog Q ⟨#[u0, .int .u8 c, u2, u3, u4, .pointer (some ⟨q, 0, none⟩), u6, u7, u8, u9, u10, u11, u12, u13, v14, v15, v16, v17, v18, v19, v20, v21, v22, v23, v24, v25, v26, v27, v28, v29, v30, v31, u32, u33, u34, u35, u36, u37, u38, u39, u40, u41, u42, u43, u44, u45, u46, u47, u48, u49, u50, u51, u52, u53, u54, u55, u56, u57, u58, u59, u60, u61, u62, u63, u64, u65, u66, u67, u68, u69, u70, u71, u72, u73, u74, u75, u76, u77, u78, u79, u80, u81, u82, u83, u84, u85, u86, u87, u88], []⟩ w') :
    (endWith 1 (dropSeq 2 plB) rest).wp Tryd.prog Q ⟨#[u0, .int .u8 c, u2, u3, u4, .pointer (some ⟨q, 0, none⟩), u6, u7, u8, u9, u10, u11, u12, u13, u14, u15, u16, u17, u18, u19, u20, u21, u22, u23, u24, u25, u26, u27, u28, u29, u30, u31, u32, u33, u34, u35, u36, u37, u38, u39, u40, u41, u42, u43, u44, u45, u46, u47, u48, u49, u50, u51, u52, u53, u54, u55, u56, u57, u58, u59, u60, u61, u62, u63, u64, u65, u66, u67, u68, u69, u70, u71, u72, u73, u74, u75, u76, u77, u78, u79, u80, u81, u82, u83, u84, u85, u86, u87, u88], []⟩ w := by
  conv => arg 2; whnf; arg 2; whnf
  have HR := hid hr
  clear hr
  have BX := hid hB
  have m0 := hB.cell (i := 0) (v := .int .u8 K) rfl
  have f25 := hB.frozen 25
  have m25 := hB.cell (i := 25) (v := .int .u8 0) rfl
  have CD := hid (fun w => rcoded_any K w)
  have SET := hid (fun v : Int => (⟨hB.set 25 (.int .u8 v), (Only.refl [q] w).setCell (.inl (by simp)) _⟩ : Blk (w.setCell ⟨q, 25, none⟩ (.int .u8 v)) q 28 (mC (smallM (K, 0, v)) N0 N0 N0).toArray ∧ Only [q] w (w.setCell ⟨q, 25, none⟩ (.int .u8 v))))
  clear hB
  unfold cbpP at HR
  cases hk : codedI K
  · rw [hk] at CD HR
    rw [if_neg (by simp)] at HR
    go_wp2_with fail
    refine (CD.out _).mono ?_
    rintro e w2 ⟨rfl, rfl⟩
    go_wp2_with fail
    exact HR.out _ _ _ _ _ _ _ _ _ _ _ _ _ _ _ _ _ _ _ BX.out (Only.refl _ _)
  · rw [hk] at CD HR
    rw [if_pos rfl] at HR
    by_cases h1 : K = 1
    · subst h1
      rw [if_pos rfl] at HR
      go_wp2_with fail
      refine (CD.out _).mono ?_
      rintro e w2 ⟨rfl, rfl⟩
      have cb1 : 0 ≤ c % 48 ∧ c % 48 ≤ 47 := by omega
      have cb2 : 0 ≤ c % 3 ∧ c % 3 ≤ 2 := by omega
      have cb3 : 0 ≤ c / 3 ∧ c / 3 ≤ 85 := by omega
      have cb4 : 0 ≤ c / 3 % 2 ∧ c / 3 % 2 ≤ 1 := by omega
      go_wp2_with fail
      exact HR.out _ _ _ _ _ _ _ _ _ _ _ _ _ _ _ _ _ _ _ ((SET.out (c % 48)).1.set 25 _) ((SET.out (c % 48)).2.setCell (.inl (by simp)) _)
    · have ne : (K == 1) = false := by simpa using h1
      rw [if_neg h1] at HR
      go_wp2_with fail
      refine (CD.out _).mono ?_
      rintro e w2 ⟨rfl, rfl⟩
      have cb1 : 0 ≤ c % 48 ∧ c % 48 ≤ 47 := by omega
      go_wp2_with fail
      exact HR.out _ _ _ _ _ _ _ _ _ _ _ _ _ _ _ _ _ _ _ (SET.out (c % 48)).1 (SET.out (c % 48)).2
end Go.Proofs.YtpmmnjeomdjakaaDoor

end
section
set_option maxRecDepth 20000
namespace Go.Proofs.YtpmmnjeomdjakaaDoor
open Go.RowKit
set_option linter.unusedVariables false
set_option linter.unusedSimpArgs false

/-- Two may come up: a read's row with two calls. -/
theorem wpAnyT_two {P : Program} {md : Region.Mode} {ops : Array Oper} {Q : Exit → Act → World → Prop} {S : World → Prop} {n : Nat} (i j : Nat) {oi oj : Oper} {r r' : List Oper} {f : Nat} {d : Array Bool} {a : Act} {w : World} (hi : ops.toList.drop i = oi :: r) (hj : ops.toList.drop j = oj :: r') (hr : Region.ready md ops d = [i, j])
    (h1 : ∀ K' : Act → World → Prop, Hid (∀ a w, S w → wpAnyT P md ops Q S n f (d.setIfInBounds i true) a w → K' a w) → if Region.wanted oi (yielded ops a.tmps) = true then Oper.wp P oi a w K' Q else K' (a.put oi.dst undef) w)
    (h2 : ∀ K' : Act → World → Prop, Hid (∀ a w, S w → wpAnyT P md ops Q S n f (d.setIfInBounds j true) a w → K' a w) → if Region.wanted oj (yielded ops a.tmps) = true then Oper.wp P oj a w K' Q else K' (a.put oj.dst undef) w) : wpAnyT P md ops Q S n (f + 1) d a w := by
  have hi := get_of_drop hi
  have hj := get_of_drop hj
  refine ⟨fun e => (by rw [hr] at e; cases e), fun k hk => ?_⟩
  rw [hr] at hk
  have : k = i ∨ k = j := by simpa using hk
  rcases this with rfl | rfl
  · exact wpOp_step hi (fun K' hK => h1 K' (hid (fun a w hS hW => hK a w ⟨fun _ => hS, hW⟩)))
  · exact wpOp_step hj (fun K' hK => h2 K' (hid (fun a w hS hW => hK a w ⟨fun _ => hS, hW⟩)))
structure TwoR (w0 w : World) (q : Nat) (X : Array Value) (rv vv : Value) (lr : List Int) (lv : List (Int × Int)) : Prop where
  b : Blk w q 28 X
  r : RowG erC 1 3 w rv lr
  v : RowG vcC 2 36 w vv lv
  rn : ∀ g, g ∈ ownG rv → w0.heap.size ≤ g
  vn : ∀ g, g ∈ ownG vv → w0.heap.size ≤ g
  ap : ∀ g, g ∈ ownG vv → g ∉ ownG rv
  o : Only [q] w0 w
  ql : q < w0.heap.size
section
variable {w0 w w' : World} {q : Nat} {X : Array Value} {rv vv : Value} {lr : List Int} {lv : List (Int × Int)}
theorem TwoR.step (h : TwoR w0 w q X rv vv lr lv) (k : Only [] w w') : TwoR w0 w' q X rv vv lr lv :=
  ⟨h.b.only k (by simp), h.r.only k (by simp), h.v.only k (by simp), h.rn, h.vn, h.ap, h.o.trans (k.mono (fun _ _ h => by cases h)), h.ql⟩
theorem in_row : RowType Tryd.prog 24 3 (.int .i64 0) 1 8 := ⟨by kernel_rfl, by kernel_rfl, rfl, by omega⟩
theorem TwoR.refs (h : TwoR w0 w q X rv vv lr lv) (bv : Value) (z : Int) (hb : HoldsG erC 1 w bv [z]) (hl : lr.length + 1 ≤ 1000000) :
    ∃ rv2 w2, (Builtin.append_ #[24, 24] 24 #[rv, bv]).run Tryd.prog w = .ok rv2 w2 ∧ TwoR w0 w2 q X rv2 vv (lr ++ [z]) lv ∧ Only (ownG rv) w w2 := by
  obtain ⟨rv2, w2, hrun, hrow, honly, hown⟩ := append_rowsG erC_ok in_row rv bv lr [z] h.r hb hl
  have nq : ∀ g, g ∈ ownG rv → g ≠ q := fun g hg => by have := h.rn g hg; have := h.ql; omega
  have s0 := h.o.size
  exact ⟨rv2, w2, hrun, ⟨h.b.only honly (fun hq => nq q hq rfl), hrow, h.v.only honly h.ap, fun g hg => (hown g hg).elim (h.rn g) (fun k => Nat.le_trans s0 k), h.vn,
    fun g hg hr => (hown g hr).elim (h.ap g hg) (fun k => by have := h.v.lt g hg; omega), (h.o.trans2 honly (fun y hy => .inr (h.rn y hy))), h.ql⟩, honly⟩
theorem TwoR.mvds (h : TwoR w0 w q X rv vv lr lv) (bv : Value) (z : Int × Int) (hb : HoldsG vcC 2 w bv [z]) (hl : lv.length + 1 ≤ 1000000) :
    ∃ vv2 w2, (Builtin.append_ #[25, 25] 25 #[vv, bv]).run Tryd.prog w = .ok vv2 w2 ∧ TwoR w0 w2 q X rv vv2 lr (lv ++ [z]) ∧ Only (ownG vv) w w2 := by
  obtain ⟨vv2, w2, hrun, hrow, honly, hown⟩ := append_rowsG vcC_ok vc_row vv bv lv [z] h.v hb hl
  have nq : ∀ g, g ∈ ownG vv → g ≠ q := fun g hg => by have := h.vn g hg; have := h.ql; omega
  have s0 := h.o.size
  exact ⟨vv2, w2, hrun, ⟨h.b.only honly (fun hq => nq q hq rfl), h.r.only honly (fun g hg hv => h.ap g hv hg), hrow, h.rn, fun g hg => (hown g hg).elim (h.vn g) (fun k => Nat.le_trans s0 k),
    fun g hg hr => (hown g hg).elim (fun k => h.ap g k hr) (fun k => by have := h.r.lt g hr; omega), (h.o.trans2 honly (fun y hy => .inr (h.vn y hy))), h.ql⟩, honly⟩
theorem TwoR.set (h : TwoR w0 w q X rv vv lr lv) (i : Nat) (u : Value) : TwoR w0 (w.setCell ⟨q, i, none⟩ u) q (X.setIfInBounds i u) rv vv lr lv := by
  have k : Only [q] w (w.setCell ⟨q, i, none⟩ u) := (Only.refl [q] w).setCell (.inl (by simp)) _
  have nr : ∀ g, g ∈ ownG rv → g ∉ [q] := fun g hg hq => by have := h.rn g hg; have := h.ql; simp at hq; omega
  have nv : ∀ g, g ∈ ownG vv → g ∉ [q] := fun g hg hq => by have := h.vn g hg; have := h.ql; simp at hq; omega
  exact ⟨h.b.set i u, h.r.only k nr, h.v.only k nv, h.rn, h.vn, h.ap, h.o.trans k, h.ql⟩
end
theorem run_in1 (z : Int) (w : World) : (Instr.buildSlice 24 1 #[(0, .int .i64 z)]).run Tryd.prog w = .ok (.slice (some ⟨w.heap.size, 0, none⟩) 1 1) (w.alloc (.cells (cellsG erC [z]).toArray 3)) := by kernel_rfl
theorem run_vc1 (x y : Int) (w : World) : (Instr.buildSlice 25 1 #[(0, .agg #[.int .i64 x, .int .i64 y])]).run Tryd.prog w = .ok (.slice (some ⟨w.heap.size, 0, none⟩) 1 1) (w.alloc (.cells (cellsG vcC [(x, y)]).toArray 36)) := by kernel_rfl
end Go.Proofs.YtpmmnjeomdjakaaDoor

end
section
set_option maxRecDepth 20000
namespace Go.Proofs.YtpmmnjeomdjakaaDoor
open Go.RowKit
set_option linter.unusedVariables false
set_option linter.unusedSimpArgs false

set_option maxRecDepth 1000000 in
set_option maxHeartbeats 8000000 in
theorem pl_refs3 (rest : Code) (Q : Exit → Act → World → Prop) (hQ : ∀ c (a : Act) d v w, Q (.panic c) (a.put (some d) v) w → Q (.panic c) a w) (C : Int) (q : Nat) (w : World) (h0 : TwoR w w q (mC (smallM (3, 0, C)) N0 N0 N0).toArray N0 N0 [] []) (u0 u1 u2 u3 u4 u6 u7 u8 u9 u10 u11 u12 u13 u14 u15 u16 u17 u18 u19 u20 u21 u22 u23 u24 u25 u26 u27 u28 u29 u30 u31 u32 u33 u34 u35 u36 u37 u38 u39 u40 u41 u42 u43 u44 u45 u46 u47 u48 u49 u50 u51 u52 u53 u54 u55 u56 u57 u58 u59 u60 u61 u62 u63 u64 u65 u66 u67 u68 u69 u70 u71 u72 u73 u74 u75 u76 u77 u78 u79 u80 u81 u82 u83 u84 u85 u86 u87 u88 : Value)
    (hr : ∀ (w' : World) (rv vv : Value) (v6 v32 v33 v34 v35 v36 v37 v38 v39 v40 v41 v42 v43 v44 v45 v46 v47 v48 v49 v50 v51 v52 v53 v54 v55 v56 v57 : Value), TwoR w w' q (mC (smallM (3, 0, C)) rv vv N0).toArray rv vv (List.replicate 1 0) (List.replicate 1 (0, 0)) → rest.wp Tryd.prog Q ⟨#[u0, u1, u2, u3, u4, .pointer (some ⟨q, 0, none⟩), v6, u7, u8, u9, u10, u11, u12, u13, u14, u15, u16, u17, u18, u19, u20, u21, u22, u23, u24, u25, u26, u27, u28, u29, u30, u31, v32, v33, v34, v35, v36, v37, v38, v39, v40, v41, v42, v43, v44, v45, v46, v47, v48, v49, v50, v51, v52, v53, v54, v55, v56, v57, u58, u59, u60, u61, u62, u63, u64, u65, u66, u67, u68, u69, u70, u71, u72, u73, u74, u75, u76, u77, u78, u79, u80, u81, u82, u83, u84, u85, u86, u87, u88], []⟩ w') :
    (endWith 1 (dropSeq 3 plB) rest).wp Tryd.prog Q ⟨#[u0, u1, u2, u3, u4, .pointer (some ⟨q, 0, none⟩), u6, u7, u8, u9, u10, u11, u12, u13, u14, u15, u16, u17, u18, u19, u20, u21, u22, u23, u24, u25, u26, u27, u28, u29, u30, u31, u32, u33, u34, u35, u36, u37, u38, u39, u40, u41, u42, u43, u44, u45, u46, u47, u48, u49, u50, u51, u52, u53, u54, u55, u56, u57, u58, u59, u60, u61, u62, u63, u64, u65, u66, u67, u68, u69, u70, u71, u72, u73, u74, u75, u76, u77, u78, u79, u80, u81, u82, u83, u84, u85, u86, u87, u88], []⟩ w := by
  conv => arg 2; whnf; arg 2; whnf
  have HR := hid hr
  clear hr
  have H0 := hid h0
  clear h0
  go_wp2_with fail
  go_loopg [6] 1 (fun g t wr => ∃ (i : Nat) (rv vv : Value), i + g = 1 ∧ t = .int .i64 i ∧ TwoR w wr q (mC (smallM (3, 0, C)) rv vv N0).toArray rv vv (List.replicate i 0) (List.replicate i (0, 0)))
  case atStart => exact ⟨0, N0, N0, by omega, rfl, H0.out⟩
  case round =>
    obtain ⟨i, rv, vv, hi, rfl, hH⟩ := hrel
    have H := hid hH
    have m0 := hH.b.cell (i := 0) (v := .int .u8 3) rfl
    have m1 : (wr.alloc (.cells #[.int .i64 1, .int .i64 2, .int .i64 2, .int .i64 4] 3)).cell? ⟨q, 0, none⟩ = some (.int .u8 3) := (hH.step ((Only.refl [] wr).alloc _)).b.cell (i := 0) rfl
    have RI := hid (rinter_any 3 wr)
    rw [show interI 3 = true from rfl] at RI
    have i0 : (0 : Int) ≤ (i : Int) := by omega
    clear hH
    by_cases hg : gk = 0
    · obtain rfl : i = 1 := by omega
      clear hi hg i0
      go_wp2_with fail
      refine RI.out.mono ?_
      rintro e w2 ⟨rfl, rfl⟩
      go_wp2_with fail
      exact HR.out _ rv vv _ _ _ _ _ _ _ _ _ _ _ _ _ _ _ _ _ _ _ _ _ _ _ _ _ _ _ (H.out.step ((Only.refl [] _).alloc _))
    · obtain ⟨gg, rfl⟩ : ∃ gg, gk = gg + 1 := ⟨gk - 1, by omega⟩
      have IN := hid (show i + 1 + gg = 1 by omega)
      have IB := hid (show i < 1 by omega)
      have i1 : (i : Int) < 1 := by omega
      clear hi hg
      go_wp2_with fail
      refine RI.out.mono ?_
      rintro e w2 ⟨rfl, rfl⟩
      go_upto_region 9 with fail
      generalize hwa : World.alloc _ _ = wa
      have HA := hid (show TwoR w wa q _ rv vv _ _ from hwa ▸ H.out.step ((Only.refl [] _).alloc _))
      clear hwa m0 m1 H RI H0
      refine wp_region_tail (fun w' => Blk w' q 28 (mC (smallM (3, 0, C)) rv vv N0).toArray) 10 13 (by kernel_rfl) rfl (HA.out.step (Only.refl [] wa).drew).b (fun hS => ?_)
      have HD := HA.out.step (Only.refl [] wa).drew
      generalize wa.drew = wd at *
      clear HA
      refine wpAnyT_take 0 (v := ?va0) rfl (by kernel_rfl) (fun _ _ _ h => hQ _ _ _ _ _ h) (Or.inl ⟨by rfl, ?ya0⟩) hS ?ra0
      case ya0 =>
        intro w hSw
        have e23 := hSw.cell (i := 23) (v := rv) rfl
        have e24 := hSw.cell (i := 24) (v := vv) rfl
        go_simp
        (try with_reducible rfl)
      (try simp only [Act.put, List.setIfInBounds_toArray, List.set_cons_zero, List.set_cons_succ])
      refine wpAnyT_take 1 (v := ?va1) rfl (by kernel_rfl) (fun _ _ _ h => hQ _ _ _ _ _ h) (Or.inl ⟨by rfl, ?ya1⟩) hS ?ra1
      case ya1 =>
        intro w hSw
        have e23 := hSw.cell (i := 23) (v := rv) rfl
        have e24 := hSw.cell (i := 24) (v := vv) rfl
        go_simp
        (try with_reducible rfl)
      (try simp only [Act.put, List.setIfInBounds_toArray, List.set_cons_zero, List.set_cons_succ])
      refine wpAnyT_take 4 (v := ?va2) rfl (by kernel_rfl) (fun _ _ _ h => hQ _ _ _ _ _ h) (Or.inl ⟨by rfl, ?ya2⟩) hS ?ra2
      case ya2 =>
        intro w hSw
        have e23 := hSw.cell (i := 23) (v := rv) rfl
        have e24 := hSw.cell (i := 24) (v := vv) rfl
        go_simp
        (try with_reducible rfl)
      (try simp only [Act.put, List.setIfInBounds_toArray, List.set_cons_zero, List.set_cons_succ])
      refine wpAnyT_take 5 (v := ?va3) rfl (by kernel_rfl) (fun _ _ _ h => hQ _ _ _ _ _ h) (Or.inl ⟨by rfl, ?ya3⟩) hS ?ra3
      case ya3 =>
        intro w hSw
        have e23 := hSw.cell (i := 23) (v := rv) rfl
        have e24 := hSw.cell (i := 24) (v := vv) rfl
        go_simp
        (try with_reducible rfl)
      (try simp only [Act.put, List.setIfInBounds_toArray, List.set_cons_zero, List.set_cons_succ])
      refine wpAnyT_take 6 (v := ?va4) rfl (by kernel_rfl) (fun _ _ _ h => hQ _ _ _ _ _ h) (Or.inl ⟨by rfl, ?ya4⟩) hS ?ra4
      case ya4 =>
        intro w hSw
        have e23 := hSw.cell (i := 23) (v := rv) rfl
        have e24 := hSw.cell (i := 24) (v := vv) rfl
        go_simp
        (try with_reducible rfl)
      (try simp only [Act.put, List.setIfInBounds_toArray, List.set_cons_zero, List.set_cons_succ])
      refine wpAnyT_two 2 7 rfl rfl (by kernel_rfl) (fun J hJ => ?_) (fun J hJ => ?_)
      · 
        have HD' := HD.step ((Only.refl [] _).alloc (.cells (cellsG erC [0]).toArray 3))
        have la := holdsG_lit erC_ok wd 3 [0] (by unfold maxLen; simp)
        refine step_bslice (by kernel_rfl) 24 1 #[(0, .const (.int .i64 0))] rfl #[(0, .int .i64 0)] (by kernel_rfl) _ _ (run_in1 0 _) ?_
        refine hJ.out _ _ HD'.b ?_
        clear hJ J
        (try simp only [Act.put, List.setIfInBounds_toArray, List.set_cons_zero, List.set_cons_succ])
        refine wpAnyT_two 3 7 rfl rfl (by kernel_rfl) (fun J hJ => ?_) (fun J hJ => ?_)
        · 
          obtain ⟨rv2, u_H2, run_H2, H2, on_H2⟩ := HD'.refs _ 0 la (by rw [List.length_replicate]; have := IB.out; omega)
          refine step_append_eqM rfl (.tmp 48) (.tmp 49) _ _ rfl _ _ rfl rfl rv2 u_H2 run_H2 ?_
          refine hJ.out _ _ H2.b ?_
          clear hJ J
          (try simp only [Act.put, List.setIfInBounds_toArray, List.set_cons_zero, List.set_cons_succ])
          refine wpAnyT_take 9 (v := ?va90) rfl (by kernel_rfl) (fun _ _ _ h => hQ _ _ _ _ _ h) (Or.inl ⟨by rfl, ?ya90⟩) H2.b ?ra90
          case ya90 =>
            intro w hSw
            have e23 := hSw.cell (i := 23) (v := rv) rfl
            have e24 := hSw.cell (i := 24) (v := vv) rfl
            go_simp
            (try with_reducible rfl)
          (try simp only [Act.put, List.setIfInBounds_toArray, List.set_cons_zero, List.set_cons_succ])
          refine wpAnyT_call 7 rfl (by kernel_rfl) (fun J hJ => ?_)
          have H2' := H2.step ((Only.refl [] _).alloc (.cells (cellsG vcC [(0, 0)]).toArray 36))
          have lb := holdsG_lit vcC_ok u_H2 36 [(0, 0)] (by unfold maxLen; simp)
          refine step_bslice (by kernel_rfl) 25 1 #[(0, .tmp 53)] rfl #[(0, .agg #[.int .i64 0, .int .i64 0])] (by kernel_rfl) _ _ (run_vc1 0 0 _) ?_
          refine hJ.out _ _ H2'.b ?_
          clear hJ J
          (try simp only [Act.put, List.setIfInBounds_toArray, List.set_cons_zero, List.set_cons_succ])
          refine wpAnyT_call 8 rfl (by kernel_rfl) (fun J hJ => ?_)
          obtain ⟨vv2, u_H4, run_H4, H4, on_H4⟩ := H2'.mvds _ (0, 0) lb (by rw [List.length_replicate]; have := IB.out; omega)
          refine step_append_eqM rfl (.tmp 52) (.tmp 54) _ _ rfl _ _ rfl rfl vv2 u_H4 run_H4 ?_
          refine hJ.out _ _ H4.b ?_
          clear hJ J
          (try simp only [Act.put, List.setIfInBounds_toArray, List.set_cons_zero, List.set_cons_succ])
          obtain ⟨ra2, rc2, er, _⟩ := id (H4.r.holds erC_ok)
          obtain ⟨va2, vc2, ev, _⟩ := id (H4.v.holds vcC_ok)
          simp only [List.length_append, List.length_replicate, List.length_cons, List.length_nil, Nat.zero_add] at er ev
          subst er ev
          have HE := hid H4
          have e23 := H4.b.cell (i := 23) (v := rv) rfl
          have e24 := H4.b.cell (i := 24) (v := vv) rfl
          have f23 := H4.b.frozen 23
          have f24 := H4.b.frozen 24
          refine wpAnyT_tail _ rfl (by kernel_rfl) ?_
          simp only [List.drop_succ_cons, List.drop_zero]
          clear hS HD
          go_wp2_with fail
          go_roundg gg
          case measure => omega
          case rel => exact ⟨i + 1, .slice ra2 (i + 1) rc2, .slice va2 (i + 1) vc2, IN.out, by go_num, by rw [show List.replicate (i + 1) (0 : Int) = List.replicate i 0 ++ [0] from List.replicate_succ', show List.replicate (i + 1) ((0, 0) : Int × Int) = List.replicate i (0, 0) ++ [(0, 0)] from List.replicate_succ']; exact (HE.out.set 23 _).set 24 _⟩
        · 
          have HD'' := HD'.step ((Only.refl [] _).alloc (.cells (cellsG vcC [(0, 0)]).toArray 36))
          have lb := holdsG_lit vcC_ok (wd.alloc (.cells (cellsG erC [0]).toArray 3)) 36 [(0, 0)] (by unfold maxLen; simp)
          refine step_bslice (by kernel_rfl) 25 1 #[(0, .tmp 53)] rfl #[(0, .agg #[.int .i64 0, .int .i64 0])] (by kernel_rfl) _ _ (run_vc1 0 0 _) ?_
          refine hJ.out _ _ HD''.b ?_
          clear hJ J
          (try simp only [Act.put, List.setIfInBounds_toArray, List.set_cons_zero, List.set_cons_succ])
          have la2 := la.only0 ((Only.refl [] _).alloc (.cells (cellsG vcC [(0, 0)]).toArray 36))
          refine wpAnyT_call 3 rfl (by kernel_rfl) (fun J hJ => ?_)
          obtain ⟨rv2, u_H2, run_H2, H2, on_H2⟩ := HD''.refs _ 0 la2 (by rw [List.length_replicate]; have := IB.out; omega)
          refine step_append_eqM rfl (.tmp 48) (.tmp 49) _ _ rfl _ _ rfl rfl rv2 u_H2 run_H2 ?_
          refine hJ.out _ _ H2.b ?_
          clear hJ J
          (try simp only [Act.put, List.setIfInBounds_toArray, List.set_cons_zero, List.set_cons_succ])
          refine wpAnyT_take 9 (v := ?va91) rfl (by kernel_rfl) (fun _ _ _ h => hQ _ _ _ _ _ h) (Or.inl ⟨by rfl, ?ya91⟩) H2.b ?ra91
          case ya91 =>
            intro w hSw
            have e23 := hSw.cell (i := 23) (v := rv) rfl
            have e24 := hSw.cell (i := 24) (v := vv) rfl
            go_simp
            (try with_reducible rfl)
          (try simp only [Act.put, List.setIfInBounds_toArray, List.set_cons_zero, List.set_cons_succ])
          have lb2 := lb.only on_H2 (fun a m c e hg => by have e1 := (Value.slice.inj e).1; simp only [Option.some.injEq] at e1; subst e1; have := HD'.r.lt _ hg; simp at this)
          refine wpAnyT_call 8 rfl (by kernel_rfl) (fun J hJ => ?_)
          obtain ⟨vv2, u_H4, run_H4, H4, on_H4⟩ := H2.mvds _ (0, 0) lb2 (by rw [List.length_replicate]; have := IB.out; omega)
          refine step_append_eqM rfl (.tmp 52) (.tmp 54) _ _ rfl _ _ rfl rfl vv2 u_H4 run_H4 ?_
          refine hJ.out _ _ H4.b ?_
          clear hJ J
          (try simp only [Act.put, List.setIfInBounds_toArray, List.set_cons_zero, List.set_cons_succ])
          obtain ⟨ra2, rc2, er, _⟩ := id (H4.r.holds erC_ok)
          obtain ⟨va2, vc2, ev, _⟩ := id (H4.v.holds vcC_ok)
          simp only [List.length_append, List.length_replicate, List.length_cons, List.length_nil, Nat.zero_add] at er ev
          subst er ev
          have HE := hid H4
          have e23 := H4.b.cell (i := 23) (v := rv) rfl
          have e24 := H4.b.cell (i := 24) (v := vv) rfl
          have f23 := H4.b.frozen 23
          have f24 := H4.b.frozen 24
          refine wpAnyT_tail _ rfl (by kernel_rfl) ?_
          simp only [List.drop_succ_cons, List.drop_zero]
          clear hS HD
          go_wp2_with fail
          go_roundg gg
          case measure => omega
          case rel => exact ⟨i + 1, .slice ra2 (i + 1) rc2, .slice va2 (i + 1) vc2, IN.out, by go_num, by rw [show List.replicate (i + 1) (0 : Int) = List.replicate i 0 ++ [0] from List.replicate_succ', show List.replicate (i + 1) ((0, 0) : Int × Int) = List.replicate i (0, 0) ++ [(0, 0)] from List.replicate_succ']; exact (HE.out.set 23 _).set 24 _⟩
      · 
        have HD' := HD.step ((Only.refl [] _).alloc (.cells (cellsG vcC [(0, 0)]).toArray 36))
        have lb := holdsG_lit vcC_ok wd 36 [(0, 0)] (by unfold maxLen; simp)
        refine step_bslice (by kernel_rfl) 25 1 #[(0, .tmp 53)] rfl #[(0, .agg #[.int .i64 0, .int .i64 0])] (by kernel_rfl) _ _ (run_vc1 0 0 _) ?_
        refine hJ.out _ _ HD'.b ?_
        clear hJ J
        (try simp only [Act.put, List.setIfInBounds_toArray, List.set_cons_zero, List.set_cons_succ])
        refine wpAnyT_call 2 rfl (by kernel_rfl) (fun J hJ => ?_)
        have HD'' := HD'.step ((Only.refl [] _).alloc (.cells (cellsG erC [0]).toArray 3))
        have la := holdsG_lit erC_ok (wd.alloc (.cells (cellsG vcC [(0, 0)]).toArray 36)) 3 [0] (by unfold maxLen; simp)
        refine step_bslice (by kernel_rfl) 24 1 #[(0, .const (.int .i64 0))] rfl #[(0, .int .i64 0)] (by kernel_rfl) _ _ (run_in1 0 _) ?_
        refine hJ.out _ _ HD''.b ?_
        clear hJ J
        (try simp only [Act.put, List.setIfInBounds_toArray, List.set_cons_zero, List.set_cons_succ])
        have lb1 := lb.only0 ((Only.refl [] _).alloc (.cells (cellsG erC [0]).toArray 3))
        refine wpAnyT_call 3 rfl (by kernel_rfl) (fun J hJ => ?_)
        obtain ⟨rv2, u_H2, run_H2, H2, on_H2⟩ := HD''.refs _ 0 la (by rw [List.length_replicate]; have := IB.out; omega)
        refine step_append_eqM rfl (.tmp 48) (.tmp 49) _ _ rfl _ _ rfl rfl rv2 u_H2 run_H2 ?_
        refine hJ.out _ _ H2.b ?_
        clear hJ J
        (try simp only [Act.put, List.setIfInBounds_toArray, List.set_cons_zero, List.set_cons_succ])
        refine wpAnyT_take 9 (v := ?va92) rfl (by kernel_rfl) (fun _ _ _ h => hQ _ _ _ _ _ h) (Or.inl ⟨by rfl, ?ya92⟩) H2.b ?ra92
        case ya92 =>
          intro w hSw
          have e23 := hSw.cell (i := 23) (v := rv) rfl
          have e24 := hSw.cell (i := 24) (v := vv) rfl
          go_simp
          (try with_reducible rfl)
        (try simp only [Act.put, List.setIfInBounds_toArray, List.set_cons_zero, List.set_cons_succ])
        have lb2 := lb1.only on_H2 (fun a m c e hg => by have e1 := (Value.slice.inj e).1; simp only [Option.some.injEq] at e1; subst e1; have := HD.r.lt _ hg; simp at this)
        refine wpAnyT_call 8 rfl (by kernel_rfl) (fun J hJ => ?_)
        obtain ⟨vv2, u_H4, run_H4, H4, on_H4⟩ := H2.mvds _ (0, 0) lb2 (by rw [List.length_replicate]; have := IB.out; omega)
        refine step_append_eqM rfl (.tmp 52) (.tmp 54) _ _ rfl _ _ rfl rfl vv2 u_H4 run_H4 ?_
        refine hJ.out _ _ H4.b ?_
        clear hJ J
        (try simp only [Act.put, List.setIfInBounds_toArray, List.set_cons_zero, List.set_cons_succ])
        obtain ⟨ra2, rc2, er, _⟩ := id (H4.r.holds erC_ok)
        obtain ⟨va2, vc2, ev, _⟩ := id (H4.v.holds vcC_ok)
        simp only [List.length_append, List.length_replicate, List.length_cons, List.length_nil, Nat.zero_add] at er ev
        subst er ev
        have HE := hid H4
        have e23 := H4.b.cell (i := 23) (v := rv) rfl
        have e24 := H4.b.cell (i := 24) (v := vv) rfl
        have f23 := H4.b.frozen 23
        have f24 := H4.b.frozen 24
        refine wpAnyT_tail _ rfl (by kernel_rfl) ?_
        simp only [List.drop_succ_cons, List.drop_zero]
        clear hS HD
        go_wp2_with fail
        go_roundg gg
        case measure => omega
        case rel => exact ⟨i + 1, .slice ra2 (i + 1) rc2, .slice va2 (i + 1) vc2, IN.out, by go_num, by rw [show List.replicate (i + 1) (0 : Int) = List.replicate i 0 ++ [0] from List.replicate_succ', show List.replicate (i + 1) ((0, 0) : Int × Int) = List.replicate i (0, 0) ++ [(0, 0)] from List.replicate_succ']; exact (HE.out.set 23 _).set 24 _⟩
end Go.Proofs.YtpmmnjeomdjakaaDoor

end

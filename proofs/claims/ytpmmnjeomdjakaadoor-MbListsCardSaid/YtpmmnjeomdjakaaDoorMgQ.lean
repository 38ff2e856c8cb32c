/- MbLists: two copies, made in any order. -/
import Derived.Test.YtpmmnjeomdjakaaDoorMgP
import Derived.Test.YtpmmnjeomdjakaaDoorQrt
import Derived.Test.YtpmmnjeomdjakaaDoorMmb19
namespace Go.Proofs.YtpmmnjeomdjakaaDoor
open Go.RowKit
set_option linter.unusedVariables false
set_option linter.unusedSimpArgs false

theorem rt_alloc {P : Program} {o : Oper} {a : Act} {w : World} {K : Act → World → Prop} {Q : Exit → Act → World → Prop} (t : TypeId) (ho : o.op = .alloc t) (v : Value) (w' : World) (hr : (Instr.alloc t true (.tuple #[])).run P w = .ok v w')
    (hK : K (a.put o.dst v) w') : Oper.wp P o a w K Q := by
  unfold Oper.wp execOp
  simp only [ho]
  simp [hr, Result.andThen]
  exact hK
theorem out_of {ops : Array Oper} {n t : Nat} (h : outB ops n t = true) : ∀ i, i < n → dstAt ops i ≠ t := fun i hi => by
  unfold outB at h
  rw [List.all_eq_true] at h
  simpa using h i (List.mem_range.2 hi)
theorem of_out {ops : Array Oper} {n t : Nat} (h : ∀ i, i < n → dstAt ops i ≠ t) : outB ops n t = true := by
  unfold outB
  rw [List.all_eq_true]
  intro i hi
  rw [bne_iff_ne]
  exact h i (List.mem_range.1 hi)
theorem mV_bv {P : MV} {ra va ba rb vb bb : Value} (h : mV P ra va ba = mV P rb vb bb) : ra = rb ∧ va = vb ∧ ba = bb := by
  unfold mV at h
  have h' := congrArg Array.toList (Value.agg.inj h)
  simp only [mC, List.cons.injEq] at h'
  simp at h'
  exact ⟨h'.1, h'.2.1, h'.2.2⟩
/-- What the operations promise. -/
def TwoF (W : World) (P : MV) (rv vv bv : Value) (i : Nat) (v : Value) (w : World) : Prop :=
  ((i = 0 ∨ i = 2) → v = mV P rv vv bv) ∧
  ((i = 1 ∨ i = 3) → ∃ ra va ba, v = mV P ra va ba ∧ RAt w P ra va ba ∧ ∀ g, g ∈ ownG ba → W.heap.size ≤ g) ∧
  ((i = 4 ∨ i = 5) → ∃ p, v = .pointer (some ⟨p, 0, none⟩) ∧ Blk w p 28 (mC m0 N0 N0 N0).toArray ∧ W.heap.size ≤ p)
def TwoG (P : MV) (i j : Nat) (u v : Value) : Prop :=
  (((i = 1 ∧ j = 3) ∨ (i = 3 ∧ j = 1)) → ∀ ra va ba rb vb bb, u = mV P ra va ba → v = mV P rb vb bb → ∀ g, g ∈ ownG ba → g ∉ ownG bb) ∧
  (((i = 4 ∧ j = 5) ∨ (i = 5 ∧ j = 4)) → ∀ p q, u = .pointer (some ⟨p, 0, none⟩) → v = .pointer (some ⟨q, 0, none⟩) → p ≠ q)
theorem TwoF.only {W : World} {P : MV} {rv vv bv : Value} (i : Nat) (v : Value) (w w' : World) (h : TwoF W P rv vv bv i v w) (o : Only [] w w') : TwoF W P rv vv bv i v w' := by
  refine ⟨h.1, fun hi => ?_, fun hi => ?_⟩
  · obtain ⟨ra, va, ba, e, r, g⟩ := h.2.1 hi
    exact ⟨ra, va, ba, e, r.step o, g⟩
  · obtain ⟨p, e, b, g⟩ := h.2.2 hi
    exact ⟨p, e, b.only o (by simp), g⟩
theorem two_load {W w : World} {P : MV} {rv vv bv : Value} (i : Nat) (hi : i = 0 ∨ i = 2) : TwoF W P rv vv bv i (mV P rv vv bv) w := ⟨fun _ => rfl, fun h => by omega, fun h => by omega⟩
theorem two_none {P : MV} {j i : Nat} {u v : Value} (h : i = 0 ∨ i = 2) : TwoG P j i u v := ⟨fun h => by omega, fun h => by omega⟩
theorem two_copy {W w w2 : World} {P : MV} {rv vv bv ra va ba : Value} (i : Nat) (hi : i = 1 ∨ i = 3) (hW : W.heap.size ≤ w.heap.size) (ho : OwnM w w2 P ra va ba) : TwoF W P rv vv bv i (mV P ra va ba) w2 ∧ ∀ j u, j < 6 → j ≠ i → TwoF W P rv vv bv j u w → TwoG P j i u (mV P ra va ba) := by
  refine ⟨⟨fun h => by omega, fun _ => ⟨ra, va, ba, rfl, ho.rat, fun g hg => ?_⟩, fun h => by omega⟩, fun j u _ _ hu => ⟨fun h => ?_, fun h => by omega⟩⟩
  · obtain ⟨vs, cc, _⟩ := ho.b
    exact Nat.le_trans hW (cc.new g hg)
  · intro r1 v1 b1 r2 v2 b2 e1 e2 g h1 h2
    obtain ⟨r3, v3, b3, e3, hr, _⟩ := hu.2.1 (by omega)
    have q1 := (mV_bv (e3.symm.trans e1)).2.2
    have q2 := (mV_bv e2).2.2
    subst q1 q2
    obtain ⟨vs, hb, _⟩ := hr.b
    obtain ⟨us, cc, _⟩ := ho.b
    have := hb.lt g h1
    have := cc.new g h2
    omega
theorem two_alloc {W w : World} {P : MV} {rv vv bv : Value} (i : Nat) (hi : i = 4 ∨ i = 5) (hW : W.heap.size ≤ w.heap.size) : TwoF W P rv vv bv i (.pointer (some ⟨w.heap.size, 0, none⟩)) (w.alloc (.cells (mC m0 N0 N0 N0).toArray 28)) ∧ ∀ j u, j < 6 → j ≠ i → TwoF W P rv vv bv j u w → TwoG P j i u (.pointer (some ⟨w.heap.size, 0, none⟩)) := by
  refine ⟨⟨fun h => by omega, fun h => by omega, fun _ => ⟨_, rfl, Blk.new w _ _, hW⟩⟩, fun j u _ _ hu => ⟨fun h => by omega, fun h => ?_⟩⟩
  intro p q e1 e2
  obtain ⟨p', e3, hb, _⟩ := hu.2.2 (by omega)
  rw [e1] at e3
  have lt := hb.lt
  simp at e2 e3
  omega
/-- The two copies. -/
structure LiT (w0 w : World) (P : MV) (pa pb : Nat) (ra va ba rb vb bb : Value) : Prop where
  ka : Blk w pa 28 (mC P ra va ba).toArray
  kb : Blk w pb 28 (mC P rb vb bb).toArray
  a : RAt w P ra va ba
  b : RAt w P rb vb bb
  ne : pa ≠ pb
  ap : ∀ g, g ∈ ownG ba → g ∉ ownG bb
  an : ∀ g, g ∈ ownG ba → w0.heap.size ≤ g
  bn : ∀ g, g ∈ ownG bb → w0.heap.size ≤ g
  pan : w0.heap.size ≤ pa
  pbn : w0.heap.size ≤ pb
  o : Only [] w0 w
set_option maxRecDepth 1000000 in
set_option maxHeartbeats 8000000 in
theorem li_two (rest : Code) (Q : Exit → Act → World → Prop)  (P : MV) (pm : Nat) (rv vv bv lv : Value) (L : List Cod) (w0 w : World) (hf : MFew P) (lp : LiP P L) (h : LiS w0 w pm P rv vv bv lv L) (u0 u1 u2 u3 u4 u5 u6 u8 u9 u10 u11 u12 u13 u14 u15 u16 u17 u18 u19 u20 u21 u22 u23 u24 u25 u26 u27 u28 u29 u30 u31 u32 u33 u34 u35 u36 u37 u38 u39 u40 u41 u42 u43 u44 u45 u46 u47 u48 u49 u50 u51 u52 u53 u54 u55 u56 u57 u58 u59 u60 u61 u62 u63 u64 u65 u66 u67 u68 u69 u70 u71 u72 u73 u74 u75 u76 u77 u78 u79 u80 u81 u82 u83 u84 u85 u86 u87 u88 u89 u90 u91 u92 u93 u94 u95 u96 u97 u98 u99 u100 u101 u102 u103 u104 u105 u106 u107 u108 u109 u110 u111 u112 u113 u114 u115 u116 u117 u118 u119 u120 u121 u122 u123 u124 u125 u126 u127 u128 u129 u130 u131 u132 u133 u134 u135 u136 u137 u138 u139 u140 u141 u142 u143 u144 u145 u146 u147 u148 u149 u150 u151 u152 u153 u154 u155 u156 u157 u158 u159 u160 u161 u162 u163 u164 u165 u166 u167 u168 u169 u170 u171 u172 u173 u174 u175 u176 u177 u178 u179 u180 u181 u182 u183 u184 u185 u186 u187 : Value)
    (hr : ∀ (w' : World) (pa pb : Nat) (ra va ba rb vb bb : Value) (v141 v142 v143 v144 : Value), LiT w w' P pa pb ra va ba rb vb bb → rest.wp Tryd.prog Q ⟨#[u0, u1, u2, u3, u4, u5, u6, .pointer (some ⟨pm, 0, none⟩), u8, u9, u10, u11, u12, u13, u14, u15, .pointer (some ⟨pa, 0, none⟩), .pointer (some ⟨pb, 0, none⟩), u18, u19, u20, u21, u22, u23, u24, u25, u26, u27, u28, u29, u30, u31, u32, u33, u34, u35, u36, u37, u38, u39, u40, u41, u42, u43, u44, u45, u46, u47, u48, u49, u50, u51, u52, u53, u54, u55, u56, u57, u58, u59, u60, u61, u62, u63, u64, u65, u66, u67, u68, u69, u70, u71, u72, u73, u74, u75, u76, u77, u78, u79, u80, u81, u82, u83, u84, u85, u86, u87, u88, u89, u90, u91, u92, u93, u94, u95, u96, u97, u98, u99, u100, u101, u102, u103, u104, u105, u106, u107, u108, u109, u110, u111, u112, u113, u114, u115, u116, u117, u118, u119, u120, u121, u122, u123, u124, u125, u126, u127, u128, u129, u130, u131, u132, u133, u134, u135, u136, u137, u138, u139, u140, v141, v142, v143, v144, u145, u146, u147, u148, u149, u150, u151, u152, u153, u154, u155, u156, u157, u158, u159, u160, u161, u162, u163, u164, u165, u166, u167, u168, u169, u170, u171, u172, u173, u174, u175, u176, u177, u178, u179, u180, u181, u182, u183, u184, u185, u186, u187], []⟩ w') :
    (endWith 1 (dropSeq 11 liB) rest).wp Tryd.prog Q ⟨#[u0, u1, u2, u3, u4, u5, u6, .pointer (some ⟨pm, 0, none⟩), u8, u9, u10, u11, u12, u13, u14, u15, u16, u17, u18, u19, u20, u21, u22, u23, u24, u25, u26, u27, u28, u29, u30, u31, u32, u33, u34, u35, u36, u37, u38, u39, u40, u41, u42, u43, u44, u45, u46, u47, u48, u49, u50, u51, u52, u53, u54, u55, u56, u57, u58, u59, u60, u61, u62, u63, u64, u65, u66, u67, u68, u69, u70, u71, u72, u73, u74, u75, u76, u77, u78, u79, u80, u81, u82, u83, u84, u85, u86, u87, u88, u89, u90, u91, u92, u93, u94, u95, u96, u97, u98, u99, u100, u101, u102, u103, u104, u105, u106, u107, u108, u109, u110, u111, u112, u113, u114, u115, u116, u117, u118, u119, u120, u121, u122, u123, u124, u125, u126, u127, u128, u129, u130, u131, u132, u133, u134, u135, u136, u137, u138, u139, u140, u141, u142, u143, u144, u145, u146, u147, u148, u149, u150, u151, u152, u153, u154, u155, u156, u157, u158, u159, u160, u161, u162, u163, u164, u165, u166, u167, u168, u169, u170, u171, u172, u173, u174, u175, u176, u177, u178, u179, u180, u181, u182, u183, u184, u185, u186, u187], []⟩ w := by
  conv => arg 2; whnf; arg 2; whnf
  have HR := hid hr
  clear hr
  have LM := hid (fun w' (o : Only [] w w') => h.step o)
  have CM := hid (fun w' (o : Only [] w w') => copymb_any P rv vv bv w' (h.m.only0 o) (by have := hf.r; omega) (by have := hf.v; omega) (by have := lp.n; have := lp.bl; omega) (fun l hl => by have := hf.i l hl; omega))
  clear h lp hf
  go_upto_region 26 with fail
  refine wp_region_rt 6 (TwoF w P rv vv bv) (TwoG P) (by kernel_rfl) (by kernel_rfl) TwoF.only (fun i o hi ho a w1 hS hsz hout hd K hK => ?_) (fun a w1 hS hsz hdf hout hall htwo => ?_)
  · have e7 : a.eval (.tmp 7) = .pointer (some ⟨pm, 0, none⟩) := hout 7 (out_of (by kernel_rfl))
    have hi6 : i = 0 ∨ i = 1 ∨ i = 2 ∨ i = 3 ∨ i = 4 ∨ i = 5 := by omega
    rcases hi6 with rfl | rfl | rfl | rfl | rfl | rfl
    · obtain rfl := Option.some.inj (show some _ = some o from ho)
      exact ⟨by kernel_rfl, rg_load 28 (.tmp 7) rfl ⟨pm, 0, none⟩ (mV P rv vv bv) e7 ((LM.out _ hS).bm.mb) (hK _ _ (two_load _ (.inl rfl)) (Only.refl _ _) (fun _ _ _ _ _ => two_none (.inl rfl)))⟩
    · obtain rfl := Option.some.inj (show some _ = some o from ho)
      have e141 : a.eval (.tmp 141) = mV P rv vv bv := (hd 0 (by kernel_rfl)).1 (by omega)
      refine ⟨by kernel_rfl, rg_call 10 _ _ #[mV P rv vv bv] rfl (by kernel_rfl) (by simp [e141]) ((CM.out _ hS).mono ?_)⟩
      rintro e w2 ⟨ra, va, ba, rfl, ho⟩
      have K := two_copy (rv := rv) (vv := vv) (bv := bv) 1 (.inl rfl) hS.size ho
      exact ⟨_, rfl, hK _ _ K.1 ho.only K.2⟩
    · obtain rfl := Option.some.inj (show some _ = some o from ho)
      exact ⟨by kernel_rfl, rg_load 28 (.tmp 7) rfl ⟨pm, 0, none⟩ (mV P rv vv bv) e7 ((LM.out _ hS).bm.mb) (hK _ _ (two_load _ (.inr rfl)) (Only.refl _ _) (fun _ _ _ _ _ => two_none (.inr rfl)))⟩
    · obtain rfl := Option.some.inj (show some _ = some o from ho)
      have e143 : a.eval (.tmp 143) = mV P rv vv bv := (hd 2 (by kernel_rfl)).1 (by omega)
      refine ⟨by kernel_rfl, rg_call 10 _ _ #[mV P rv vv bv] rfl (by kernel_rfl) (by simp [e143]) ((CM.out _ hS).mono ?_)⟩
      rintro e w2 ⟨ra, va, ba, rfl, ho⟩
      have K := two_copy (rv := rv) (vv := vv) (bv := bv) 3 (.inr rfl) hS.size ho
      exact ⟨_, rfl, hK _ _ K.1 ho.only K.2⟩
    · obtain rfl := Option.some.inj (show some _ = some o from ho)
      have K := two_alloc (P := P) (rv := rv) (vv := vv) (bv := bv) 4 (.inl rfl) hS.size
      exact ⟨by kernel_rfl, rt_alloc 28 rfl _ _ (run_allocM _) (hK _ _ K.1 ((Only.refl _ _).alloc _) K.2)⟩
    · obtain rfl := Option.some.inj (show some _ = some o from ho)
      have K := two_alloc (P := P) (rv := rv) (vv := vv) (bv := bv) 5 (.inr rfl) hS.size
      exact ⟨by kernel_rfl, rt_alloc 28 rfl _ _ (run_allocM _) (hK _ _ K.1 ((Only.refl _ _).alloc _) K.2)⟩
  · obtain ⟨ra, va, ba, e1, R1, N1⟩ := (hall 1 (by omega)).2.1 (.inl rfl)
    obtain ⟨rb, vb, bb, e3, R3, N3⟩ := (hall 3 (by omega)).2.1 (.inr rfl)
    obtain ⟨pa, e4, B4, P4⟩ := (hall 4 (by omega)).2.2 (.inl rfl)
    obtain ⟨pb, e5, B5, P5⟩ := (hall 5 (by omega)).2.2 (.inr rfl)
    have e0 := (hall 0 (by omega)).1 (.inl rfl)
    have e2 := (hall 2 (by omega)).1 (.inr rfl)
    have hne : pa ≠ pb := by
      rcases htwo 4 5 (by omega) (by omega) (by omega) with h | h
      · exact h.2 (.inl ⟨rfl, rfl⟩) pa pb e4 e5
      · exact fun q => h.2 (.inr ⟨rfl, rfl⟩) pb pa e5 e4 q.symm
    have hap : ∀ g, g ∈ ownG ba → g ∉ ownG bb := by
      rcases htwo 1 3 (by omega) (by omega) (by omega) with h | h
      · exact h.1 (.inl ⟨rfl, rfl⟩) ra va ba rb vb bb e1 e3
      · exact fun g h1 h2 => h.1 (.inr ⟨rfl, rfl⟩) rb vb bb ra va ba e3 e1 g h2 h1
    have ea := rg_close hsz hdf (fun t ht => hout t (out_of ht)) [(141, mV P rv vv bv), (142, mV P ra va ba), (143, mV P rv vv bv), (144, mV P rb vb bb), (16, .pointer (some ⟨pa, 0, none⟩)), (17, .pointer (some ⟨pb, 0, none⟩))] (by kernel_rfl) (.cons e0 (.cons e1 (.cons e2 (.cons e3 (.cons e4 (.cons e5 .nil))))))
    rw [ea]
    have o1 := R1.at.one
    have o3 := R3.at.one
    have HB4 := hid B4
    have HB5 := hid B5
    have HR1 := hid R1
    have HR3 := hid R3
    have NE := hid hne
    have AP := hid hap
    have NN := hid (And.intro N1 (And.intro N3 (And.intro P4 P5)))
    have HS := hid hS
    clear ea hall htwo hout hsz hdf e0 e1 e2 e3 e4 e5 B4 B5 R1 R3 hne hap N1 N3 P4 P5 hS
    simp only [putL, Act.put, List.setIfInBounds_toArray, List.set_cons_zero, List.set_cons_succ, List.drop_succ_cons, List.drop_zero]
    unfold mV
    go_wp2_with (first
      | (refine store_blk rfl 28 (.tmp 16) (.tmp 142) rfl pa 0 _ _ (mC P ra va ba) rfl rfl (info_mb' _ _ _ _) HB4.out (by simp [mC]) (one_mC P o1.1 o1.2.1 o1.2.2) ?_; intro w4 hB4 hO4; rw [setsA_full (by simp [mC])] at hB4; have HW4 := hid hB4; have HO4 := hid hO4; clear hB4 hO4)
      | (refine store_blk rfl 28 (.tmp 17) (.tmp 144) rfl pb 0 _ _ (mC P rb vb bb) rfl rfl (info_mb' _ _ _ _) (HB5.out.only HO4.out (by have := NE.out; simp; omega)) (by simp [mC]) (one_mC P o3.1 o3.2.1 o3.2.2) ?_; intro w5 hB5 hO5; rw [setsA_full (by simp [mC])] at hB5; have HW5 := hid hB5; have HO5 := hid hO5; clear hB5 hO5))
    have RA := (HR1.out.turn HB4.out HO4.out).turn (HB5.out.only HO4.out (by have := NE.out; simp; omega)) HO5.out
    have RB := (HR3.out.turn HB4.out HO4.out).turn (HB5.out.only HO4.out (by have := NE.out; simp; omega)) HO5.out
    exact HR.out _ pa pb ra va ba rb vb bb _ _ _ _ ⟨(HW4.out.only HO5.out (by have := NE.out; simp; omega)), HW5.out, RA, RB, NE.out, AP.out, NN.out.1, NN.out.2.1, NN.out.2.2.1, NN.out.2.2.2, (HS.out.trans2 HO4.out (fun g hg => .inr (by have := NN.out.2.2.1; simp at hg; omega))).trans2 HO5.out (fun g hg => .inr (by have := NN.out.2.2.2; simp at hg; omega))⟩
end Go.Proofs.YtpmmnjeomdjakaaDoor

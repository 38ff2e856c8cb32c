/- The package's functions: what each answers, wherever its two variables lie as the program's text lays them. Ahead of it: The program's closure that reads a list: the commands that come, or an error. -/
import Derived.Test.YtjjjfmnhdnajkaaGreatDoorMpG
import Derived.Test.YtjjjfmnhdnajkaaGreatDoorMpD
namespace Go.Proofs.YtjjjfmnhdnajkaaGreatDoor
open Go.RowKit Go.Shelf
set_option linter.unusedVariables false
attribute [local go_sem] Oper.semAt_some

theorem boxed_only {S : List Nat} {A B : World} {k : Nat} {t : TypeId} {v : Value} (h : Boxed A k t v) (o : Only S A B) (hk : k ∉ S) : Boxed B k t v := (o.block k h.lt hk).trans h
theorem fine_inj {a b : List (Int × Int × Int)} (h : fine a = fine b) : a = b := by
  have := congrArg (List.map (·.1)) h
  simpa [fine, Function.comp_def] using this
theorem fine_err {a : List (Int × Int × Int)} {l : List Cm} {y : Int × Int × Int} {er : Int} (h : fine a = l ++ [(y, er)]) : er = 0 := by
  have hm : (y, er) ∈ fine a := by rw [h]; simp
  simp only [fine, List.mem_map, Prod.mk.injEq] at hm
  obtain ⟨x, _, _, e⟩ := hm
  exact e.symm
/-- An append in a fenced walk, by what it does. -/
theorem wpListIn_append_eq {F : Fence} {n : Nat} {P : Program} (w : World) {ops : Array Oper} {rest : List Oper} {o : Oper} {a : Act} {Q : Exit → Act → World → Prop}
    (hg : o.guard = none) (s x : Operand) (t1 t2 : TypeId) (hop : o.op = Op.call { callee := Callee.builtin Builtin.append, args := #[s, x], argTypes := #[t1, t2] })
    (v xv v' : Value) (w' : World) (hs : a.eval s = v) (hx : a.eval x = xv) (hrun : (Builtin.append_ #[t1, t2] o.type #[v, xv]).run P w = .ok v' w')
    (hK : wpListIn F n P ops Q rest (a.put o.dst v') w') : wpListIn F n P ops Q (o :: rest) a w := by
  refine wpListIn_plain hg fun K hK' => ?_
  unfold Oper.wpIn
  refine ⟨by simp [Oper.about, hop, resolve, Target.leads, Sem.run_pure], ?_⟩
  rw [Oper.semAt_plain F _ _ (by rw [hop]; intro c hc'; cases hc')]
  simp [execOp, hop, resolve, invoke, builtin, hs, hx, hrun, Result.andThen]
  exact hK' _ _ hK
/-- What the loop's cells hold between two rounds (R: the first block of the call's own). -/
structure LSt (w : World) (R b : Nat) (l : List (Int × Int × Int)) (sv : Value) (W : World) : Prop where
  r : Boxed W R 31 (.slice none 0 0)
  e : Boxed W (R + 1) 41 (.int .i64 0)
  v : Boxed W (R + 1 + 1) 31 sv
  row : RowM W sv l
  far : ∀ g, g ∈ ownOf sv → R + 1 + 1 + 1 + 1 + 1 + 1 + 1 ≤ g
  only : Only [b] w W
def LI (w : World) (R b : Nat) (pre : List Cm) (W : World) : Prop := ∃ l sv, pre = fine l ∧ LSt w R b l sv W
def LX (w : World) (R b : Nat) (pre : List Cm) (W : World) : Prop := ∃ l y er, pre = l ++ [(y, er)] ∧ er ≠ 0 ∧ Boxed W R 31 (.slice none 0 0) ∧ Boxed W (R + 1) 41 (.int .i64 er) ∧ Only [b] w W
theorem LI.two (w : World) (R b : Nat) (hb : b < R) (hw : w.heap.size ≤ R) : Holds2 ((R + 1 + 1 + 1 + 1 + 1) :: (R + 1 + 1 + 1 + 1 + 1 + 1) :: [b]) (LI w R b) := by
  rintro pre A B ⟨l, sv, rfl, h⟩ k
  exact ⟨l, sv, rfl, boxed_only h.r k (by simp; omega), boxed_only h.e k (by simp; omega), boxed_only h.v k (by simp; omega), h.row.only k (fun g hg => by have := h.far g hg; simp; omega), h.far,
    h.only.trans2 k (fun x hx => by simp at hx; rcases hx with e | e | e; exact .inr (by omega); exact .inr (by omega); exact .inl (by simp [e]))⟩
theorem LX.two (w : World) (R b : Nat) (hb : b < R) (hw : w.heap.size ≤ R) : Holds2 ((R + 1 + 1 + 1 + 1 + 1) :: (R + 1 + 1 + 1 + 1 + 1 + 1) :: [b]) (LX w R b) := by
  rintro pre A B ⟨l, y, er, rfl, hne, h1, h2, h3⟩ k
  exact ⟨l, y, er, rfl, hne, boxed_only h1 k (by simp; omega), boxed_only h2 k (by simp; omega),
    h3.trans2 k (fun x hx => by simp at hx; rcases hx with e | e | e; exact .inr (by omega); exact .inr (by omega); exact .inl (by simp [e]))⟩
theorem cmAll_two (m : Bool) (b : Nat) (s : ByteArray) (pos : Nat) (S : List Nat) (hb : b ∉ S) : Holds2 S (CmAll m b s pos) := by
  rintro xs A B (⟨l, q, h1, h2, h3⟩ | h) k
  · exact .inl ⟨l, q, h1, h2, h3.only k hb⟩
  · exact .inr h
theorem cmSome_two (m : Bool) (b : Nat) (s : ByteArray) (pos : Nat) (S : List Nat) (hb : b ∉ S) : Holds2 S (CmSome m b s pos) := by
  rintro xs A B ⟨l, y, er, q, h1, h2, h3⟩ k
  exact ⟨l, y, er, q, h1, h2.only k hb, h3⟩
/-- What the closure hands back, and what lies behind it. -/
def ListPost (m : Bool) (b : Nat) (s : ByteArray) (pos : Nat) (w : World) (e : Ending) (w' : World) : Prop :=
  ∃ sv, e = .returned (.tuple #[sv, .int .i64 (readF m s 66 pos).2.1]) ∧ HoldsM w' sv (readF m s 66 pos).1 ∧ (∃ q, Rd w' b s q ∧ ((readF m s 66 pos).2.1 = 0 → q = (readF m s 66 pos).2.2)) ∧ Only [b] w w' ∧ ∀ g, g ∈ ownOf sv → w.heap.size ≤ g
theorem ls_end (m : Bool) (b : Nat) (s : ByteArray) (pos : Nat) (w W : World) (D : Nat) (sv : Value) (l : List (Int × Int × Int)) (er : Int) (q : Nat) {t0 t1 t2 : Value} {ts : List Value} (hr : Boxed W w.heap.size 31 sv) (he : Boxed W (w.heap.size + 1) 41 (.int .i64 er))
    (hO : Only [b] w W) (hK : W.heap[D]? = some (.deferred (some []))) (hD : w.heap.size ≤ D) (hb : b < w.heap.size) (hH : HoldsM W sv l) (hf : ∀ g, g ∈ ownOf sv → w.heap.size ≤ g) (hR : Rd W b s q) (hq : er = 0 → q = (readF m s 66 pos).2.2)
    (h1 : (readF m s 66 pos).1 = l) (h2 : (readF m s 66 pos).2.1 = er) :
    bodyPostM Fence.wide 5 Tryz.prog Tryz.f155 (ListPost m b s pos w) Exit.ret
      { tmps := (t0 :: t1 :: t2 :: .pointer (some ⟨w.heap.size, 0, none⟩) :: .pointer (some ⟨w.heap.size + 1, 0, none⟩) :: ts).toArray, defers := [{ target := Target.collected D, args := #[] }] } W := by
  refine ⟨by simp, .inl ⟨_, _, rfl, run_takeDeferred hK, ?_⟩⟩
  have ck : ∀ {p : Addr} {v : Value}, W.cell? p = some v → (W.putObj D (.deferred none)).cell? p = some v := fun h => cell_kept h (grownBy_putObj' W D (.deferred none)) (fun r e => by cases e; exact ⟨_, hK, rfl⟩)
  have hr5 := ck hr.cell
  have he5 := ck he.cell
  refine ⟨.tuple #[sv, .int .i64 er], ?_, sv, by rw [h2], ?_, ⟨q, ?_, fun e => hq (h2 ▸ e)⟩, ?_, hf⟩
  · simp [results, Tryz.f155, go_sem, hr5, he5]
  · rw [h1]
    obtain ⟨a, c, rfl, g1, g2, g3⟩ := hH
    refine ⟨a, c, rfl, g1, g2, ?_⟩
    rcases g3 with g3 | ⟨b', o, rfl, hc⟩
    · exact .inl g3
    · exact .inr ⟨b', o, rfl, fun j x hj => ⟨ck (hc j x hj).c0, ck (hc j x hj).c1, ck (hc j x hj).c2⟩⟩
  · exact hR.only ((Only.refl [D] W).putObj (.inl (by simp)) _) (by simp; omega)
  · exact hO.putObj (.inr hD) _

set_option maxRecDepth 100000 in
set_option maxHeartbeats 4000000 in
theorem list1_any (m : Bool) (b kb : Nat) (s : ByteArray) (pos : Nat) (w : World) (h : Rd w b s pos) (hK : KAt w kb m) (hkb : kb ≠ b) :
    Calls Tryz.prog 155 #[.pointer (some ⟨b, 0, none⟩), .pointer (some ⟨kb, 0, none⟩)] w (ListPost m b s pos w) := by
  have H := hid h
  have K := hid hK
  have CM := hid (fun w => commands_any m b w)
  have W0 : Only [] w (((w.alloc (.cells #[.slice none 0 0] 31)).alloc (.cells #[.int .i64 0] 41)).alloc (.cells #[.slice none 0 0] 31)) := (((Only.refl _ _).alloc _).alloc _).alloc _
  have bR : Boxed (((w.alloc (.cells #[.slice none 0 0] 31)).alloc (.cells #[.int .i64 0] 41)).alloc (.cells #[.slice none 0 0] 31)) w.heap.size 31 (.slice none 0 0) := ((Boxed.new w _ _).alloc _).alloc _
  have bE : Boxed (((w.alloc (.cells #[.slice none 0 0] 31)).alloc (.cells #[.int .i64 0] 41)).alloc (.cells #[.slice none 0 0] 31)) (w.heap.size + 1) 41 (.int .i64 0) := by
    have := Boxed.new (w.alloc (.cells #[.slice none 0 0] 31)) 41 (.int .i64 0)
    rw [World.size_alloc] at this
    exact this.alloc _
  have bL : Boxed (((w.alloc (.cells #[.slice none 0 0] 31)).alloc (.cells #[.int .i64 0] 41)).alloc (.cells #[.slice none 0 0] 31)) (w.heap.size + 1 + 1) 31 (.slice none 0 0) := by
    have := Boxed.new ((w.alloc (.cells #[.slice none 0 0] 31)).alloc (.cells #[.int .i64 0] 41)) 31 (.slice none 0 0)
    rw [World.size_alloc, World.size_alloc] at this
    exact this
  have hsz : (((w.alloc (.cells #[.slice none 0 0] 31)).alloc (.cells #[.int .i64 0] 41)).alloc (.cells #[.slice none 0 0] 31)).heap.size = w.heap.size + 1 + 1 + 1 := by simp
  have B0 := hid (And.intro W0 (And.intro bR (And.intro bE (And.intro bL hsz))))
  have hblt := h.lt
  have KM := hid (hK.only W0 (by simp))
  clear W0 bR bE bL hsz h hK
  refine (callsIn_wide (n := 5)).1 ?_
  refine callsIn_of_wp_marks Tryz.func155 rfl trivial ?_ rfl
  simp only [Tryz.ntmps155, List.size_toArray, List.length_cons, List.length_nil, Nat.reduceAdd, Nat.reduceSub, Array.replicate_succ, Array.replicate_zero, List.push_toArray, List.append_toArray, List.nil_append, List.cons_append]
  cases m with
  | false =>
    obtain ⟨⟨k0, k1, k2, k3⟩, k4, k5, k6, k7⟩ := KM.out.k0
    simp only [kindV, kindC] at CM
    gi_wp2_with fail
    refine ⟨trivial, (callsIn_wide.2 (CM.out _)).mono ?_⟩
    rintro e w1 ⟨rfl, hk1, hb1, hs1, hO1⟩
    obtain ⟨o0, r0, e0, l0, z0⟩ := B0.out
    rw [z0] at hk1 hb1 hs1 ⊢
    have S1 : LSt w w.heap.size b [] (.slice none 0 0) w1 := ⟨boxed_only r0 hO1 (by simp), boxed_only e0 hO1 (by simp), boxed_only l0 hO1 (by simp), RowM.nil _, fun g hg => by simp [ownOf, Value.ownBlock] at hg, (o0.trans hO1).mono (by simp)⟩
    have S1 := hid S1
    have R1 := hid ((H.out.only o0 (by simp)).only hO1 (by simp))
    have K1 := hid hk1
    have B1 := hid hb1
    have Z1 := hid hs1
    clear o0 r0 e0 l0 z0 hk1 hb1 hs1 hO1 B0 CM KM k0 k1 k2 k3 k4 k5 k6 k7
    gi_wp2_with fail
    have TW := hid (cm_turn 4 (by omega) b (w.heap.size + 1 + 1 + 1) (w.heap.size + 1 + 1 + 1 + 1) false s pos w1 R1.out K1.out B1.out (by omega) (by omega))
    refine wpIn_range_turn (gf := 160) (lb := #[.pointer (some ⟨w.heap.size + 1 + 1 + 1 + 1, 0, none⟩), .pointer (some ⟨w.heap.size + 1 + 1 + 1, 0, none⟩)]) rfl (enters_of Tryz.func160 (by kernel_rfl) rfl)
      TW.out (Only.refl _ _) (fun _ => rfl) (fun k hk => by have := Z1.out; simp at hk; omega) (fun k hk => by have := Z1.out; simp at hk; omega)
      (LI w w.heap.size b) (LX w w.heap.size b) (by rw [Z1.out]; exact LI.two w _ b hblt (Nat.le_refl _)) (by rw [Z1.out]; exact LX.two w _ b hblt (Nat.le_refl _)) ⟨[], _, rfl, S1.out⟩
      (cmAll_two _ _ _ _ _ (by have := Z1.out; simp; omega)) (cmSome_two _ _ _ _ _ (by have := Z1.out; simp; omega))
      (fun pre x a' W => ∃ Bm, w.heap.size + 1 + 1 + 1 + 1 + 1 + 1 + 1 ≤ Bm ∧ MAt W Bm 0 x.1 ∧ a' = { tmps := #[.pointer (some ⟨b, 0, none⟩), .pointer (some ⟨kb, 0, none⟩), undef, .pointer (some ⟨w.heap.size, 0, none⟩), .pointer (some ⟨w.heap.size + 1, 0, none⟩), .pointer (some ⟨w.heap.size + 1 + 1, 0, none⟩), .pointer (some ⟨Bm, 0, none⟩), .int .i64 x.2,
        .agg #[.int .u64 3, .int .i64 1, .int .i64 1, .int .i64 1, .int .i64 (-1), .int .i64 (-1), .int .i64 (-1), .int .i64 (-1)], .pointer (some ⟨b, 0, none⟩), .func (.func 160) #[] #[.pointer (some ⟨w.heap.size + 1 + 1 + 1 + 1, 0, none⟩), .pointer (some ⟨w.heap.size + 1 + 1 + 1, 0, none⟩)], .agg #[.int .u8 x.1.1, .int .i64 x.1.2.1, .int .i64 x.1.2.2], .int .i64 x.2, undef, undef, undef, undef, undef, undef, undef, undef], defers := [] })
      (by
        rintro pre x a' _ A B ⟨Bm, h1, h2, h3⟩ k
        exact ⟨Bm, h1, h2.only k (by have := Z1.out; simp; omega), h3⟩) ?assign ?body ?done ?stop
    case assign =>
      rintro l pre x W K2 ⟨l2, sv, rfl, hS⟩ hlt hK
      have HS := hid hS
      have HK := hid hK
      have O2 := hid ((Only.refl [] W).alloc (Obj.cells #[.int .u8 x.1.1, .int .i64 x.1.2.1, .int .i64 x.1.2.2] 37))
      have MB := hid (show MAt (W.alloc (Obj.cells #[.int .u8 x.1.1, .int .i64 x.1.2.1, .int .i64 x.1.2.2] 37)) W.heap.size 0 x.1 from ⟨by simp, by simp, by simp⟩)
      rw [Z1.out] at hlt
      have HL := hid hlt
      simp only [cmV]
      clear hS hK hlt
      gi_wp2_with fail
      refine HK.out _ _ (O2.out.same (fun k hk => ⟨by simp, ?_⟩)) ?_ ⟨l2, sv, rfl, boxed_only HS.out.r O2.out (by simp), boxed_only HS.out.e O2.out (by simp), boxed_only HS.out.v O2.out (by simp), HS.out.row.only O2.out (by simp), HS.out.far, HS.out.only.trans (O2.out.mono (by simp))⟩ ⟨W.heap.size, by have := HL.out; omega, MB.out, rfl⟩
      · have h1 := HL.out
        have h2 := Z1.out
        simp at hk
        omega
      · have h1 := HL.out
        have h2 := Z1.out
        have h3 := O2.out.size
        omega
    case body =>
      rintro l pre x a' W ⟨l2, sv, rfl, hS⟩ ⟨Bm, hBm, hM, rfl⟩ hlt hlen
      have HS := hid hS
      have cR := hS.r.cell
      have fR := hS.r.frozen
      have cE := hS.e.cell
      have fE := hS.e.frozen
      have cL := hS.v.cell
      have fL := hS.v.frozen
      obtain ⟨m0, m1, m2⟩ := hM
      have ZZ := Z1.out
      rw [ZZ] at hlt
      by_cases he : x.2 = 0
      · obtain ⟨y, er⟩ := x
        simp only at he
        subst he
        obtain ⟨sv2, w2, hrun, hrow, honly, hown⟩ := append_mod W sv l2 y hS.row (by simp [fine] at hlen; omega)
        obtain ⟨a2, c2, rfl, _⟩ := hrow.holds
        have HR := hid hrow
        have HO := hid hown
        have OO := hid honly
        have NR := hid (show w.heap.size ∉ ownOf sv ∧ w.heap.size + 1 ∉ ownOf sv ∧ w.heap.size + 1 + 1 ∉ ownOf sv from ⟨fun e => by have := hS.far _ e; omega, fun e => by have := hS.far _ e; omega, fun e => by have := hS.far _ e; omega⟩)
        have v2 := boxed_only hS.v honly NR.out.2.2
        have c2' := v2.cell
        have f2' := v2.frozen
        have V2 := hid v2
        have FN := hid (show turnPost ((w.heap.size + 1 + 1 + 1 + 1 + 1) :: (w.heap.size + 1 + 1 + 1 + 1 + 1 + 1) :: [b, w.heap.size + 1 + 1 + 1, w.heap.size + 1 + 1 + 1 + 1]) (LI w w.heap.size b) (LX w w.heap.size b) (fine l2 ++ [(y, 0)]) W .normal { tmps := #[], defers := [] } (w2.setCell ⟨w.heap.size + 1 + 1, 0, none⟩ (.slice a2 (l2 ++ [y]).length c2)) by
          have o3 := (Only.refl [w.heap.size + 1 + 1] w2).setCell (p := ⟨w.heap.size + 1 + 1, 0, none⟩) (.inl (by simp)) (.slice a2 (l2 ++ [y]).length c2)
          refine ⟨((honly.same (fun k hk => ⟨fun e => ?_, ?_⟩)).trans (o3.same (fun k hk => ⟨?_, ?_⟩))), l2 ++ [y], .slice a2 (l2 ++ [y]).length c2, fine_snoc _ _, ⟨?_, ?_, ?_, ?_, ?_, ?_⟩⟩
          · have h1 := hS.far k e
            have h2 := Z1.out
            simp at hk
            omega
          · simp at hk; omega
          · simp at hk ⊢; omega
          · have h1 := honly.size
            simp at hk; omega
          · exact boxed_only (boxed_only hS.r honly NR.out.1) o3 (by simp <;> omega)
          · exact boxed_only (boxed_only hS.e honly NR.out.2.1) o3 (by simp <;> omega)
          · exact v2.set _
          · exact hrow.only o3 (fun g hg => by
              rcases hown g hg with e | e
              · have := hS.far g e; simp; omega
              · simp; omega)
          · intro g hg
            rcases hown g hg with e | e
            · exact hS.far g e
            · omega
          · refine (hS.only.trans2 honly (fun z hz => .inr ?_)).trans2 o3 (fun z hz => .inr ?_)
            · have := hS.far z hz; omega
            · simp at hz; omega)
        have RUN := hid hrun
        rw [show (l2 ++ [y]).length = l2.length + 1 by simp] at FN
        clear hS hrow honly hown hlen v2 HR HO OO NR hrun
        gi_wp2_with (gi_at_builtin; refine wpListIn_append_eq _ rfl _ _ 31 31 rfl _ _ _ _ rfl rfl RUN.out ?_)
        exact FN.out
      · obtain ⟨y, er⟩ := x
        simp only at he
        have E0 := hid he
        have FN := hid (show turnPost ((w.heap.size + 1 + 1 + 1 + 1 + 1) :: (w.heap.size + 1 + 1 + 1 + 1 + 1 + 1) :: [b, w.heap.size + 1 + 1 + 1, w.heap.size + 1 + 1 + 1 + 1]) (LI w w.heap.size b) (LX w w.heap.size b) (fine l2 ++ [(y, er)]) W .ret { tmps := #[], defers := [] } ((W.setCell ⟨w.heap.size, 0, none⟩ (.slice none 0 0)).setCell ⟨w.heap.size + 1, 0, none⟩ (.int .i64 er)) by
          have o3 := ((Only.refl [w.heap.size, w.heap.size + 1] W).setCell (p := ⟨w.heap.size, 0, none⟩) (.inl (by simp)) (.slice none 0 0)).setCell (p := ⟨w.heap.size + 1, 0, none⟩) (.inl (by simp)) (.int .i64 er)
          refine ⟨o3.same (fun k hk => ⟨?_, ?_⟩), _, _, _, rfl, he, ?_, ?_, hS.only.trans2 o3 (fun z hz => .inr ?_)⟩
          · simp at hk ⊢; omega
          · simp at hk; omega
          · exact boxed_only (hS.r.set _) ((Only.refl [w.heap.size + 1] _).setCell (p := ⟨w.heap.size + 1, 0, none⟩) (.inl (by simp)) _) (by simp)
          · exact (boxed_only hS.e ((Only.refl [w.heap.size] _).setCell (p := ⟨w.heap.size, 0, none⟩) (.inl (by simp)) _) (by simp)).set _
          · simp at hz; omega)
        clear hS hlen
        gi_wp2_with fail
        exact FN.out
    case done =>
      rintro xs W hs ⟨l2, sv, rfl, hS⟩ hd
      have ZZ := Z1.out
      rcases hs with ⟨l3, q, e3, hr3, hR3⟩ | ⟨l3, y, er, e3, hne⟩
      · obtain rfl := fine_inj e3
        have HS := hid hS
        have cR := hS.r.cell
        have fR := hS.r.frozen
        have cE := hS.e.cell
        have fE := hS.e.frozen
        have cL := hS.v.cell
        have fL := hS.v.frozen
        obtain ⟨a2, c2, rfl, _⟩ := hS.row.holds
        have HD := hid hd
        have R3 := hid hr3
        have RR := hid hR3
        have o3 := hid (((Only.refl [w.heap.size, w.heap.size + 1] W).setCell (p := ⟨w.heap.size, 0, none⟩) (.inl (by simp)) (.slice a2 l2.length c2)).setCell (p := ⟨w.heap.size + 1, 0, none⟩) (.inl (by simp)) (.int .i64 0))
        have hRb := hid (boxed_only (hS.r.set (.slice a2 l2.length c2)) ((Only.refl [w.heap.size + 1] _).setCell (p := ⟨w.heap.size + 1, 0, none⟩) (.inl (by simp)) (.int .i64 0)) (by simp))
        have hEb := hid ((boxed_only hS.e ((Only.refl [w.heap.size] _).setCell (p := ⟨w.heap.size, 0, none⟩) (.inl (by simp)) (.slice a2 l2.length c2)) (by simp)).set (.int .i64 0))
        clear hS hd hr3 hR3 e3
        gi_wp2_with fail
        refine ls_end false b s pos w _ w1.heap.size _ l2 0 q hRb.out hEb.out (HS.out.only.trans2 o3.out (fun z hz => .inr (by simp at hz; omega))) ((o3.out.block _ (Array.getElem?_eq_some_iff.1 HD.out).1 (by simp; omega)).trans HD.out) (by omega) hblt (HS.out.row.holds.only o3.out (fun ad n c e => ?_)) (fun g hg => by have := HS.out.far g hg; omega) (RR.out.only o3.out (by simp; omega)) (fun _ => by rw [R3.out]) (by rw [R3.out]) (by rw [R3.out])
        have := HS.out.far ad.block (by rw [e]; simp [ownOf, Value.ownBlock])
        simp
        omega
      · exact absurd (fine_err e3) hne
    case stop =>
      rintro pre W ⟨l2, y, er, q, rfl, hR3, her⟩ ⟨l3, y3, er3, e3, hne, hr, he, hO⟩ hd
      have ZZ := Z1.out
      obtain ⟨_, e4⟩ := List.append_inj' e3 rfl
      obtain ⟨rfl, rfl⟩ : y = y3 ∧ er = er3 := by simpa using e4
      have ER := hid (her hne)
      have NE := hid hne
      have HR := hid hr
      have HE := hid he
      have HD := hid hd
      have RR := hid hR3
      have HO := hid hO
      clear e3 e4 her hne hr he hd hR3 hO
      gi_wp2_with fail
      exact ls_end false b s pos w _ w1.heap.size _ [] er q HR.out HE.out HO.out HD.out (by omega) hblt (holdsM_none _) (fun g hg => by simp [ownOf, Value.ownBlock] at hg) RR.out (fun e => absurd e NE.out) (by rw [ER.out]) (by rw [ER.out])
  | true =>
    obtain ⟨⟨k0, k1, k2, k3⟩, k4, k5, k6, k7⟩ := KM.out.k1
    simp only [kindV, kindC] at CM
    gi_wp2_with fail
    refine ⟨trivial, (callsIn_wide.2 (CM.out _)).mono ?_⟩
    rintro e w1 ⟨rfl, hk1, hb1, hs1, hO1⟩
    obtain ⟨o0, r0, e0, l0, z0⟩ := B0.out
    rw [z0] at hk1 hb1 hs1 ⊢
    have S1 : LSt w w.heap.size b [] (.slice none 0 0) w1 := ⟨boxed_only r0 hO1 (by simp), boxed_only e0 hO1 (by simp), boxed_only l0 hO1 (by simp), RowM.nil _, fun g hg => by simp [ownOf, Value.ownBlock] at hg, (o0.trans hO1).mono (by simp)⟩
    have S1 := hid S1
    have R1 := hid ((H.out.only o0 (by simp)).only hO1 (by simp))
    have K1 := hid hk1
    have B1 := hid hb1
    have Z1 := hid hs1
    clear o0 r0 e0 l0 z0 hk1 hb1 hs1 hO1 B0 CM KM k0 k1 k2 k3 k4 k5 k6 k7
    gi_wp2_with fail
    have TW := hid (cm_turn 4 (by omega) b (w.heap.size + 1 + 1 + 1) (w.heap.size + 1 + 1 + 1 + 1) true s pos w1 R1.out K1.out B1.out (by omega) (by omega))
    refine wpIn_range_turn (gf := 160) (lb := #[.pointer (some ⟨w.heap.size + 1 + 1 + 1 + 1, 0, none⟩), .pointer (some ⟨w.heap.size + 1 + 1 + 1, 0, none⟩)]) rfl (enters_of Tryz.func160 (by kernel_rfl) rfl)
      TW.out (Only.refl _ _) (fun _ => rfl) (fun k hk => by have := Z1.out; simp at hk; omega) (fun k hk => by have := Z1.out; simp at hk; omega)
      (LI w w.heap.size b) (LX w w.heap.size b) (by rw [Z1.out]; exact LI.two w _ b hblt (Nat.le_refl _)) (by rw [Z1.out]; exact LX.two w _ b hblt (Nat.le_refl _)) ⟨[], _, rfl, S1.out⟩
      (cmAll_two _ _ _ _ _ (by have := Z1.out; simp; omega)) (cmSome_two _ _ _ _ _ (by have := Z1.out; simp; omega))
      (fun pre x a' W => ∃ Bm, w.heap.size + 1 + 1 + 1 + 1 + 1 + 1 + 1 ≤ Bm ∧ MAt W Bm 0 x.1 ∧ a' = { tmps := #[.pointer (some ⟨b, 0, none⟩), .pointer (some ⟨kb, 0, none⟩), undef, .pointer (some ⟨w.heap.size, 0, none⟩), .pointer (some ⟨w.heap.size + 1, 0, none⟩), .pointer (some ⟨w.heap.size + 1 + 1, 0, none⟩), .pointer (some ⟨Bm, 0, none⟩), .int .i64 x.2,
        .agg #[.int .u64 0, .int .i64 (-1), .int .i64 1, .int .i64 1, .int .i64 2, .int .i64 1, .int .i64 0, .int .i64 1], .pointer (some ⟨b, 0, none⟩), .func (.func 160) #[] #[.pointer (some ⟨w.heap.size + 1 + 1 + 1 + 1, 0, none⟩), .pointer (some ⟨w.heap.size + 1 + 1 + 1, 0, none⟩)], .agg #[.int .u8 x.1.1, .int .i64 x.1.2.1, .int .i64 x.1.2.2], .int .i64 x.2, undef, undef, undef, undef, undef, undef, undef, undef], defers := [] })
      (by
        rintro pre x a' _ A B ⟨Bm, h1, h2, h3⟩ k
        exact ⟨Bm, h1, h2.only k (by have := Z1.out; simp; omega), h3⟩) ?assign ?body ?done ?stop
    case assign =>
      rintro l pre x W K2 ⟨l2, sv, rfl, hS⟩ hlt hK
      have HS := hid hS
      have HK := hid hK
      have O2 := hid ((Only.refl [] W).alloc (Obj.cells #[.int .u8 x.1.1, .int .i64 x.1.2.1, .int .i64 x.1.2.2] 37))
      have MB := hid (show MAt (W.alloc (Obj.cells #[.int .u8 x.1.1, .int .i64 x.1.2.1, .int .i64 x.1.2.2] 37)) W.heap.size 0 x.1 from ⟨by simp, by simp, by simp⟩)
      rw [Z1.out] at hlt
      have HL := hid hlt
      simp only [cmV]
      clear hS hK hlt
      gi_wp2_with fail
      refine HK.out _ _ (O2.out.same (fun k hk => ⟨by simp, ?_⟩)) ?_ ⟨l2, sv, rfl, boxed_only HS.out.r O2.out (by simp), boxed_only HS.out.e O2.out (by simp), boxed_only HS.out.v O2.out (by simp), HS.out.row.only O2.out (by simp), HS.out.far, HS.out.only.trans (O2.out.mono (by simp))⟩ ⟨W.heap.size, by have := HL.out; omega, MB.out, rfl⟩
      · have h1 := HL.out
        have h2 := Z1.out
        simp at hk
        omega
      · have h1 := HL.out
        have h2 := Z1.out
        have h3 := O2.out.size
        omega
    case body =>
      rintro l pre x a' W ⟨l2, sv, rfl, hS⟩ ⟨Bm, hBm, hM, rfl⟩ hlt hlen
      have HS := hid hS
      have cR := hS.r.cell
      have fR := hS.r.frozen
      have cE := hS.e.cell
      have fE := hS.e.frozen
      have cL := hS.v.cell
      have fL := hS.v.frozen
      obtain ⟨m0, m1, m2⟩ := hM
      have ZZ := Z1.out
      rw [ZZ] at hlt
      by_cases he : x.2 = 0
      · obtain ⟨y, er⟩ := x
        simp only at he
        subst he
        obtain ⟨sv2, w2, hrun, hrow, honly, hown⟩ := append_mod W sv l2 y hS.row (by simp [fine] at hlen; omega)
        obtain ⟨a2, c2, rfl, _⟩ := hrow.holds
        have HR := hid hrow
        have HO := hid hown
        have OO := hid honly
        have NR := hid (show w.heap.size ∉ ownOf sv ∧ w.heap.size + 1 ∉ ownOf sv ∧ w.heap.size + 1 + 1 ∉ ownOf sv from ⟨fun e => by have := hS.far _ e; omega, fun e => by have := hS.far _ e; omega, fun e => by have := hS.far _ e; omega⟩)
        have v2 := boxed_only hS.v honly NR.out.2.2
        have c2' := v2.cell
        have f2' := v2.frozen
        have V2 := hid v2
        have FN := hid (show turnPost ((w.heap.size + 1 + 1 + 1 + 1 + 1) :: (w.heap.size + 1 + 1 + 1 + 1 + 1 + 1) :: [b, w.heap.size + 1 + 1 + 1, w.heap.size + 1 + 1 + 1 + 1]) (LI w w.heap.size b) (LX w w.heap.size b) (fine l2 ++ [(y, 0)]) W .normal { tmps := #[], defers := [] } (w2.setCell ⟨w.heap.size + 1 + 1, 0, none⟩ (.slice a2 (l2 ++ [y]).length c2)) by
          have o3 := (Only.refl [w.heap.size + 1 + 1] w2).setCell (p := ⟨w.heap.size + 1 + 1, 0, none⟩) (.inl (by simp)) (.slice a2 (l2 ++ [y]).length c2)
          refine ⟨((honly.same (fun k hk => ⟨fun e => ?_, ?_⟩)).trans (o3.same (fun k hk => ⟨?_, ?_⟩))), l2 ++ [y], .slice a2 (l2 ++ [y]).length c2, fine_snoc _ _, ⟨?_, ?_, ?_, ?_, ?_, ?_⟩⟩
          · have h1 := hS.far k e
            have h2 := Z1.out
            simp at hk
            omega
          · simp at hk; omega
          · simp at hk ⊢; omega
          · have h1 := honly.size
            simp at hk; omega
          · exact boxed_only (boxed_only hS.r honly NR.out.1) o3 (by simp <;> omega)
          · exact boxed_only (boxed_only hS.e honly NR.out.2.1) o3 (by simp <;> omega)
          · exact v2.set _
          · exact hrow.only o3 (fun g hg => by
              rcases hown g hg with e | e
              · have := hS.far g e; simp; omega
              · simp; omega)
          · intro g hg
            rcases hown g hg with e | e
            · exact hS.far g e
            · omega
          · refine (hS.only.trans2 honly (fun z hz => .inr ?_)).trans2 o3 (fun z hz => .inr ?_)
            · have := hS.far z hz; omega
            · simp at hz; omega)
        have RUN := hid hrun
        rw [show (l2 ++ [y]).length = l2.length + 1 by simp] at FN
        clear hS hrow honly hown hlen v2 HR HO OO NR hrun
        gi_wp2_with (gi_at_builtin; refine wpListIn_append_eq _ rfl _ _ 31 31 rfl _ _ _ _ rfl rfl RUN.out ?_)
        exact FN.out
      · obtain ⟨y, er⟩ := x
        simp only at he
        have E0 := hid he
        have FN := hid (show turnPost ((w.heap.size + 1 + 1 + 1 + 1 + 1) :: (w.heap.size + 1 + 1 + 1 + 1 + 1 + 1) :: [b, w.heap.size + 1 + 1 + 1, w.heap.size + 1 + 1 + 1 + 1]) (LI w w.heap.size b) (LX w w.heap.size b) (fine l2 ++ [(y, er)]) W .ret { tmps := #[], defers := [] } ((W.setCell ⟨w.heap.size, 0, none⟩ (.slice none 0 0)).setCell ⟨w.heap.size + 1, 0, none⟩ (.int .i64 er)) by
          have o3 := ((Only.refl [w.heap.size, w.heap.size + 1] W).setCell (p := ⟨w.heap.size, 0, none⟩) (.inl (by simp)) (.slice none 0 0)).setCell (p := ⟨w.heap.size + 1, 0, none⟩) (.inl (by simp)) (.int .i64 er)
          refine ⟨o3.same (fun k hk => ⟨?_, ?_⟩), _, _, _, rfl, he, ?_, ?_, hS.only.trans2 o3 (fun z hz => .inr ?_)⟩
          · simp at hk ⊢; omega
          · simp at hk; omega
          · exact boxed_only (hS.r.set _) ((Only.refl [w.heap.size + 1] _).setCell (p := ⟨w.heap.size + 1, 0, none⟩) (.inl (by simp)) _) (by simp)
          · exact (boxed_only hS.e ((Only.refl [w.heap.size] _).setCell (p := ⟨w.heap.size, 0, none⟩) (.inl (by simp)) _) (by simp)).set _
          · simp at hz; omega)
        clear hS hlen
        gi_wp2_with fail
        exact FN.out
    case done =>
      rintro xs W hs ⟨l2, sv, rfl, hS⟩ hd
      have ZZ := Z1.out
      rcases hs with ⟨l3, q, e3, hr3, hR3⟩ | ⟨l3, y, er, e3, hne⟩
      · obtain rfl := fine_inj e3
        have HS := hid hS
        have cR := hS.r.cell
        have fR := hS.r.frozen
        have cE := hS.e.cell
        have fE := hS.e.frozen
        have cL := hS.v.cell
        have fL := hS.v.frozen
        obtain ⟨a2, c2, rfl, _⟩ := hS.row.holds
        have HD := hid hd
        have R3 := hid hr3
        have RR := hid hR3
        have o3 := hid (((Only.refl [w.heap.size, w.heap.size + 1] W).setCell (p := ⟨w.heap.size, 0, none⟩) (.inl (by simp)) (.slice a2 l2.length c2)).setCell (p := ⟨w.heap.size + 1, 0, none⟩) (.inl (by simp)) (.int .i64 0))
        have hRb := hid (boxed_only (hS.r.set (.slice a2 l2.length c2)) ((Only.refl [w.heap.size + 1] _).setCell (p := ⟨w.heap.size + 1, 0, none⟩) (.inl (by simp)) (.int .i64 0)) (by simp))
        have hEb := hid ((boxed_only hS.e ((Only.refl [w.heap.size] _).setCell (p := ⟨w.heap.size, 0, none⟩) (.inl (by simp)) (.slice a2 l2.length c2)) (by simp)).set (.int .i64 0))
        clear hS hd hr3 hR3 e3
        gi_wp2_with fail
        refine ls_end true b s pos w _ w1.heap.size _ l2 0 q hRb.out hEb.out (HS.out.only.trans2 o3.out (fun z hz => .inr (by simp at hz; omega))) ((o3.out.block _ (Array.getElem?_eq_some_iff.1 HD.out).1 (by simp; omega)).trans HD.out) (by omega) hblt (HS.out.row.holds.only o3.out (fun ad n c e => ?_)) (fun g hg => by have := HS.out.far g hg; omega) (RR.out.only o3.out (by simp; omega)) (fun _ => by rw [R3.out]) (by rw [R3.out]) (by rw [R3.out])
        have := HS.out.far ad.block (by rw [e]; simp [ownOf, Value.ownBlock])
        simp
        omega
      · exact absurd (fine_err e3) hne
    case stop =>
      rintro pre W ⟨l2, y, er, q, rfl, hR3, her⟩ ⟨l3, y3, er3, e3, hne, hr, he, hO⟩ hd
      have ZZ := Z1.out
      obtain ⟨_, e4⟩ := List.append_inj' e3 rfl
      obtain ⟨rfl, rfl⟩ : y = y3 ∧ er = er3 := by simpa using e4
      have ER := hid (her hne)
      have NE := hid hne
      have HR := hid hr
      have HE := hid he
      have HD := hid hd
      have RR := hid hR3
      have HO := hid hO
      clear e3 e4 her hne hr he hd hR3 hO
      gi_wp2_with fail
      exact ls_end true b s pos w _ w1.heap.size _ [] er q HR.out HE.out HO.out HD.out (by omega) hblt (holdsM_none _) (fun g hg => by simp [ownOf, Value.ownBlock] at hg) RR.out (fun e => absurd e NE.out) (by rw [ER.out]) (by rw [ER.out])
end Go.Proofs.YtjjjfmnhdnajkaaGreatDoor
namespace Go.Proofs.YtjjjfmnhdnajkaaGreatDoor
open Go.RowKit
set_option linter.unusedVariables false

set_option maxHeartbeats 1000000 in
theorem list_any (m : Bool) (w : World) :
    Calls Tryz.prog 151 #[kindV m] w fun e w' => e = .returned (.func (.func 155) #[] #[.pointer (some ⟨w.heap.size, 0, none⟩)]) ∧ KAt w' w.heap.size m ∧ Only [] w w' := by
  have hmf : ∀ (fn : Fn) (first cap : Array Value) (w : World), (Instr.makeFunc fn first cap).run Tryz.prog w = .ok (.func fn first cap) w := fun _ _ _ _ => rfl
  have KN := hid (kat_new w m 186)
  cases m
  all_goals
    simp only [kindV, kindC] at KN ⊢
    go_enter Tryz.func151, Tryz.ntmps151
    go_wp2_with fail
    go_ret
    exact ⟨rfl, KN.out⟩

/-- What Mods and Marks hand back, and what lies behind them. -/
def ReadPost (m : Bool) (b : Nat) (s : ByteArray) (pos : Nat) (w : World) (e : Ending) (w' : World) : Prop :=
  ∃ sv, e = .returned (.tuple #[sv, .int .i64 (readI m s pos).2.1]) ∧ HoldsM w' sv (readI m s pos).1 ∧ Rd w' b s (readI m s pos).2.2 ∧ Only [b] w w' ∧ FreshM w sv (readI m s pos).1
theorem readF_bad {m : Bool} {s : ByteArray} {k q : Nat} (h : (readF m s k q).2.1 ≠ 0) : (readF m s k q).1 = [] := by
  rw [← joinT_readF m s k q] at h ⊢
  unfold joinT at h ⊢
  split
  · rfl
  · rename_i c
    rw [if_neg c] at h
    exact absurd rfl h
set_option maxHeartbeats 4000000 in
theorem read9_any (m : Bool) (b kb : Nat) (s : ByteArray) (pos : Nat) (w : World) (h : Rd w b s pos) (hK : KAt w kb m) (hkb : kb ≠ b) :
    Calls Tryz.prog 150 #[.pointer (some ⟨b, 0, none⟩), .func (.func 155) #[] #[.pointer (some ⟨kb, 0, none⟩)]] w (ReadPost m b s pos w) := by
  have H := hid h
  have K := hid hK
  have CP := hid (copy_any b s pos w h)
  have LT := hid hK.lt
  have BT := hid h.lt
  have L1 := hid (fun (b : Nat) (w : World) (h : Rd w b s pos) (hK : KAt w kb m) (hkb : kb ≠ b) => list1_any m b kb s pos w h hK hkb)
  have R1 := hid (show readI m s pos = ((readF m s 66 pos).1, (readF m s 66 pos).2.1, if (readF m s 66 pos).2.1 = 0 then (readF m s 66 pos).2.2 else pos) from rfl)
  have BAD := hid (fun h => readF_bad (m := m) (s := s) (k := 66) (q := pos) h)
  unfold ReadPost
  unfold ListPost at L1
  rw [R1.out]
  clear R1
  generalize readF m s 66 pos = r at *
  obtain ⟨l, er, q⟩ := r
  dsimp only at *
  clear h hK
  go_enter Tryz.func150, Tryz.ntmps150
  go_wp2_with fail
  refine CP.out.mono ?_
  rintro e w1 ⟨rfl, hR1, hO1⟩
  have R1 := hid hR1
  have O1 := hid hO1
  clear hR1 hO1 CP
  go_wp2_with fail
  refine (L1.out w.heap.size w1 R1.out (K.out.only O1.out (by simp)) (by have := LT.out; omega)).mono ?_
  rintro e w2 ⟨sv, rfl, _, _, hO2, _⟩
  have O2 := hid ((O1.out.mono (T := []) (by simp)).trans2 hO2 (fun x hx => .inr (by rw [List.mem_singleton.1 hx]; exact Nat.le_refl _)))
  clear hO2
  by_cases he : er = 0
  · subst he
    go_wp2_with fail
    refine (L1.out b w2 (H.out.only O2.out (by simp)) (K.out.only O2.out (by simp)) hkb).mono ?_
    rintro e w3 ⟨sv3, rfl, hH3, ⟨q3, hR3, hq3⟩, hO3, hf3⟩
    have H3 := hid hH3
    have R3 := hid (hq3 (by first | trivial | rfl) ▸ hR3)
    have O3 := hid ((O2.out.mono (T := [b]) (by simp)).trans hO3)
    have F3 := hid (freshM_own (w := w) (sv := sv3) (l := l) (fun g hg => by have := hf3 g hg; have := O2.out.size; omega))
    clear hH3 hR3 hO3 hf3 L1 hq3
    go_wp2_with fail
    go_ret2
    exact ⟨sv3, rfl, H3.out, R3.out, O3.out, F3.out⟩
  · have B0 := BAD.out he
    have E0 := hid he
    clear BAD L1
    subst B0
    go_wp2_with fail
    go_ret2
    exact ⟨_, rfl, holdsM_none _, H.out.only O2.out (by simp), O2.out.mono (by simp), freshM_nil _⟩
set_option maxHeartbeats 400000 in
theorem read9_nil (w : World) (f : Value) : Calls Tryz.prog 150 #[.pointer none, f] w fun e w' => (∃ sv, e = .returned (.tuple #[sv, .int .i64 1])) ∧ Only [] w w' := by
  go_enter Tryz.func150, Tryz.ntmps150
  go_wp2_with fail
  go_ret2
  exact ⟨⟨_, rfl⟩, Only.refl _ _⟩
theorem Vars.not_rd {w : World} (h : Vars w) {b : Nat} {s : ByteArray} {pos : Nat} (hr : Rd w b s pos) (m : Bool) : kindG m ≠ b := fun e => by
  have := h.first m
  rw [e, hr.hs] at this
  cases this

set_option maxHeartbeats 1000000 in
theorem checkmods_any (a : Value) (l : List (Int × Int × Int)) (w : World) (hV : Vars w) (ha : HoldsM w a l) (hk : OksM l) : Calls Tryz.prog 135 #[a] w fun e w' => e = .returned (.int .i64 (checkI false l)) ∧ Only [] w w' := by
  have CK := hid (check9_any false a l w ha hk)
  obtain ⟨⟨k0, k1, k2, k3⟩, k4, k5, k6, k7⟩ := (hV.kat false).k0
  simp only [kindG] at k0 k1 k2 k3 k4 k5 k6 k7
  simp only [kindV, kindC] at CK
  obtain ⟨a, c, rfl, _⟩ := ha
  clear hV
  go_enter Tryz.func135, Tryz.ntmps135
  go_wp2_with fail
  refine CK.out.mono ?_
  rintro e w1 ⟨rfl, hO⟩
  clear k0 k1 k2 k3 k4 k5 k6 k7
  go_wp2_with fail
  go_ret
  exact ⟨rfl, hO⟩
set_option maxHeartbeats 1000000 in
theorem checkmarks_any (a : Value) (l : List (Int × Int × Int)) (w : World) (hV : Vars w) (ha : HoldsM w a l) (hk : OksM l) : Calls Tryz.prog 138 #[a] w fun e w' => e = .returned (.int .i64 (checkI true l)) ∧ Only [] w w' := by
  have CK := hid (check9_any true a l w ha hk)
  obtain ⟨⟨k0, k1, k2, k3⟩, k4, k5, k6, k7⟩ := (hV.kat true).k1
  simp only [kindG] at k0 k1 k2 k3 k4 k5 k6 k7
  simp only [kindV, kindC] at CK
  obtain ⟨a, c, rfl, _⟩ := ha
  clear hV
  go_enter Tryz.func138, Tryz.ntmps138
  go_wp2_with fail
  refine CK.out.mono ?_
  rintro e w1 ⟨rfl, hO⟩
  clear k0 k1 k2 k3 k4 k5 k6 k7
  go_wp2_with fail
  go_ret
  exact ⟨rfl, hO⟩
set_option maxHeartbeats 1000000 in
theorem putmods_any (b : Nat) (sv : Value) (L : List Bool) (a : Value) (l : List (Int × Int × Int)) (w : World) (hV : Vars w) (h : Wr w b sv L) (ha : HoldsM w a l) (hk : OksM l) (hd : Aside a l b sv) (hL : L.length ≤ 1000000) : Calls Tryz.prog 137 #[.pointer (some ⟨b, 0, none⟩), a] w fun e w' => e = .returned (.int .i64 (putI false L l).1) ∧ ∃ sv', PutLeft w w' b sv sv' (putI false L l).2 := by
  have CK := hid (put9_any false b sv L a l w h ha hk hd hL)
  obtain ⟨⟨k0, k1, k2, k3⟩, k4, k5, k6, k7⟩ := (hV.kat false).k0
  simp only [kindG] at k0 k1 k2 k3 k4 k5 k6 k7
  simp only [kindV, kindC] at CK
  obtain ⟨a, c, rfl, _⟩ := ha
  clear hV h hd
  generalize putI false L l = r at *
  obtain ⟨k, B⟩ := r
  go_enter Tryz.func137, Tryz.ntmps137
  go_wp2_with fail
  refine CK.out.mono ?_
  rintro e w1 ⟨rfl, sv', hO⟩
  clear k0 k1 k2 k3 k4 k5 k6 k7
  go_wp2_with fail
  go_ret
  exact ⟨rfl, sv', hO⟩
set_option maxHeartbeats 1000000 in
theorem putmarks_any (b : Nat) (sv : Value) (L : List Bool) (a : Value) (l : List (Int × Int × Int)) (w : World) (hV : Vars w) (h : Wr w b sv L) (ha : HoldsM w a l) (hk : OksM l) (hd : Aside a l b sv) (hL : L.length ≤ 1000000) : Calls Tryz.prog 140 #[.pointer (some ⟨b, 0, none⟩), a] w fun e w' => e = .returned (.int .i64 (putI true L l).1) ∧ ∃ sv', PutLeft w w' b sv sv' (putI true L l).2 := by
  have CK := hid (put9_any true b sv L a l w h ha hk hd hL)
  obtain ⟨⟨k0, k1, k2, k3⟩, k4, k5, k6, k7⟩ := (hV.kat true).k1
  simp only [kindG] at k0 k1 k2 k3 k4 k5 k6 k7
  simp only [kindV, kindC] at CK
  obtain ⟨a, c, rfl, _⟩ := ha
  clear hV h hd
  generalize putI true L l = r at *
  obtain ⟨k, B⟩ := r
  go_enter Tryz.func140, Tryz.ntmps140
  go_wp2_with fail
  refine CK.out.mono ?_
  rintro e w1 ⟨rfl, sv', hO⟩
  clear k0 k1 k2 k3 k4 k5 k6 k7
  go_wp2_with fail
  go_ret
  exact ⟨rfl, sv', hO⟩
set_option maxHeartbeats 1000000 in
theorem mods_post (b : Nat) (s : ByteArray) (pos : Nat) (w : World) (hV : Vars w) (h : Rd w b s pos) : Calls Tryz.prog 136 #[.pointer (some ⟨b, 0, none⟩)] w (ReadPost false b s pos w) := by
  have LA := hid (list_any false w)
  have RA := hid (fun w' hK (hO : Only [] w w') => read9_any false b w.heap.size s pos w' (h.only hO (by simp)) hK (by have := h.lt; omega))
  unfold ReadPost at RA ⊢
  obtain ⟨⟨k0, k1, k2, k3⟩, k4, k5, k6, k7⟩ := (hV.kat false).k0
  simp only [kindG] at k0 k1 k2 k3 k4 k5 k6 k7
  simp only [kindV, kindC] at LA
  clear hV h
  generalize readI false s pos = r at *
  obtain ⟨l, er, q⟩ := r
  dsimp only at *
  go_enter Tryz.func136, Tryz.ntmps136
  go_wp2_with fail
  refine LA.out.mono ?_
  rintro e w1 ⟨rfl, hK, hO⟩
  have RB := hid (RA.out w1 hK hO)
  have O1 := hid hO
  clear k0 k1 k2 k3 k4 k5 k6 k7 hK hO RA LA
  go_wp2_with fail
  refine RB.out.mono ?_
  rintro e w2 ⟨sv, rfl, h1, h2, h3, h4⟩
  have F := hid (show HoldsM w2 sv l ∧ Rd w2 b s q ∧ Only [b] w w2 ∧ FreshM w sv l from ⟨h1, h2, (O1.out.mono (by simp)).trans h3, fun ad n c e hl => Nat.le_trans O1.out.size (h4 ad n c e hl)⟩)
  clear h1 h2 h3 h4 RB
  go_wp2_with fail
  go_ret2
  exact ⟨sv, rfl, F.out⟩
set_option maxHeartbeats 1000000 in
theorem marks_post (b : Nat) (s : ByteArray) (pos : Nat) (w : World) (hV : Vars w) (h : Rd w b s pos) : Calls Tryz.prog 139 #[.pointer (some ⟨b, 0, none⟩)] w (ReadPost true b s pos w) := by
  have LA := hid (list_any true w)
  have RA := hid (fun w' hK (hO : Only [] w w') => read9_any true b w.heap.size s pos w' (h.only hO (by simp)) hK (by have := h.lt; omega))
  unfold ReadPost at RA ⊢
  obtain ⟨⟨k0, k1, k2, k3⟩, k4, k5, k6, k7⟩ := (hV.kat true).k1
  simp only [kindG] at k0 k1 k2 k3 k4 k5 k6 k7
  simp only [kindV, kindC] at LA
  clear hV h
  generalize readI true s pos = r at *
  obtain ⟨l, er, q⟩ := r
  dsimp only at *
  go_enter Tryz.func139, Tryz.ntmps139
  go_wp2_with fail
  refine LA.out.mono ?_
  rintro e w1 ⟨rfl, hK, hO⟩
  have RB := hid (RA.out w1 hK hO)
  have O1 := hid hO
  clear k0 k1 k2 k3 k4 k5 k6 k7 hK hO RA LA
  go_wp2_with fail
  refine RB.out.mono ?_
  rintro e w2 ⟨sv, rfl, h1, h2, h3, h4⟩
  have F := hid (show HoldsM w2 sv l ∧ Rd w2 b s q ∧ Only [b] w w2 ∧ FreshM w sv l from ⟨h1, h2, (O1.out.mono (by simp)).trans h3, fun ad n c e hl => Nat.le_trans O1.out.size (h4 ad n c e hl)⟩)
  clear h1 h2 h3 h4 RB
  go_wp2_with fail
  go_ret2
  exact ⟨sv, rfl, F.out⟩
theorem mods_any (b : Nat) (s : ByteArray) (pos : Nat) (w : World) (hV : Vars w) (h : Rd w b s pos) (hz : s.size ≤ 100000) : Calls Tryz.prog 136 #[.pointer (some ⟨b, 0, none⟩)] w fun e w' => ∃ sv, e = .returned (.tuple #[sv, .int .i64 (readI false s pos).2.1]) ∧ HoldsM w' sv (readI false s pos).1 ∧ Rd w' b s (readI false s pos).2.2 ∧ Only [b] w w' ∧ FreshM w sv (readI false s pos).1 := mods_post b s pos w hV h
theorem marks_any (b : Nat) (s : ByteArray) (pos : Nat) (w : World) (hV : Vars w) (h : Rd w b s pos) (hz : s.size ≤ 100000) : Calls Tryz.prog 139 #[.pointer (some ⟨b, 0, none⟩)] w fun e w' => ∃ sv, e = .returned (.tuple #[sv, .int .i64 (readI true s pos).2.1]) ∧ HoldsM w' sv (readI true s pos).1 ∧ Rd w' b s (readI true s pos).2.2 ∧ Only [b] w w' ∧ FreshM w sv (readI true s pos).1 := marks_post b s pos w hV h
set_option maxHeartbeats 1000000 in
theorem mods_nil (w : World) (hV : Vars w) : Calls Tryz.prog 136 #[.pointer none] w fun e w' => (∃ sv, e = .returned (.tuple #[sv, .int .i64 1])) ∧ Only [] w w' := by
  have LA := hid (list_any false w)
  obtain ⟨⟨k0, k1, k2, k3⟩, k4, k5, k6, k7⟩ := (hV.kat false).k0
  simp only [kindG] at k0 k1 k2 k3 k4 k5 k6 k7
  simp only [kindV, kindC] at LA
  clear hV
  go_enter Tryz.func136, Tryz.ntmps136
  go_wp2_with fail
  refine LA.out.mono ?_
  rintro e w1 ⟨rfl, hK, hO⟩
  clear k0 k1 k2 k3 k4 k5 k6 k7 hK
  go_wp2_with fail
  refine (read9_nil _ _).mono ?_
  rintro e w2 ⟨⟨sv, rfl⟩, hO2⟩
  go_wp2_with fail
  go_ret2
  exact ⟨⟨_, rfl⟩, hO.trans hO2⟩
set_option maxHeartbeats 1000000 in
theorem marks_nil (w : World) (hV : Vars w) : Calls Tryz.prog 139 #[.pointer none] w fun e w' => (∃ sv, e = .returned (.tuple #[sv, .int .i64 1])) ∧ Only [] w w' := by
  have LA := hid (list_any true w)
  obtain ⟨⟨k0, k1, k2, k3⟩, k4, k5, k6, k7⟩ := (hV.kat true).k1
  simp only [kindG] at k0 k1 k2 k3 k4 k5 k6 k7
  simp only [kindV, kindC] at LA
  clear hV
  go_enter Tryz.func139, Tryz.ntmps139
  go_wp2_with fail
  refine LA.out.mono ?_
  rintro e w1 ⟨rfl, hK, hO⟩
  clear k0 k1 k2 k3 k4 k5 k6 k7 hK
  go_wp2_with fail
  refine (read9_nil _ _).mono ?_
  rintro e w2 ⟨⟨sv, rfl⟩, hO2⟩
  go_wp2_with fail
  go_ret2
  exact ⟨⟨_, rfl⟩, hO.trans hO2⟩
set_option maxHeartbeats 400000 in
theorem put9_nil (m : Bool) (w : World) : Calls Tryz.prog 152 #[kindV m, .pointer none, .slice none 0 0] w fun e w' => e = .returned (.int .i64 1) ∧ Only [] w w' := by
  cases m
  all_goals
    simp only [kindV, kindC]
    go_enter Tryz.func152, Tryz.ntmps152
    go_wp2_with fail
    go_ret
    exact ⟨rfl, (Only.refl _ _).alloc _⟩
set_option maxHeartbeats 1000000 in
theorem putmods_nil (w : World) (hV : Vars w) : Calls Tryz.prog 137 #[.pointer none, .slice none 0 0] w fun e w' => e = .returned (.int .i64 1) ∧ Only [] w w' := by
  have CK := hid (put9_nil false w)
  obtain ⟨⟨k0, k1, k2, k3⟩, k4, k5, k6, k7⟩ := (hV.kat false).k0
  simp only [kindG] at k0 k1 k2 k3 k4 k5 k6 k7
  simp only [kindV, kindC] at CK
  clear hV
  go_enter Tryz.func137, Tryz.ntmps137
  go_wp2_with fail
  refine CK.out.mono ?_
  rintro e w1 ⟨rfl, hO⟩
  clear k0 k1 k2 k3 k4 k5 k6 k7
  go_wp2_with fail
  go_ret
  exact ⟨rfl, hO⟩
set_option maxHeartbeats 1000000 in
theorem putmarks_nil (w : World) (hV : Vars w) : Calls Tryz.prog 140 #[.pointer none, .slice none 0 0] w fun e w' => e = .returned (.int .i64 1) ∧ Only [] w w' := by
  have CK := hid (put9_nil true w)
  obtain ⟨⟨k0, k1, k2, k3⟩, k4, k5, k6, k7⟩ := (hV.kat true).k1
  simp only [kindG] at k0 k1 k2 k3 k4 k5 k6 k7
  simp only [kindV, kindC] at CK
  clear hV
  go_enter Tryz.func140, Tryz.ntmps140
  go_wp2_with fail
  refine CK.out.mono ?_
  rintro e w1 ⟨rfl, hO⟩
  clear k0 k1 k2 k3 k4 k5 k6 k7
  go_wp2_with fail
  go_ret
  exact ⟨rfl, hO⟩
end Go.Proofs.YtjjjfmnhdnajkaaGreatDoor

/- The program's Split: the units of a stream, or ErrForm, or ErrLong. -/
import Derived.Test.YtfigmjlnjaihnaaItA
import Derived.Test.YtfigmjlnjaihnaaSs
import Derived.Test.YtfigmjlnjaihnaaJoin
import Derived.RangeFuncWrites
namespace Go.Proofs.Ytfigmjlnjaihnaa
open Go.RowKit Go.Shelf
set_option linter.unusedVariables false
attribute [local go_sem] Oper.semAt_some

/-- The unit behind a start code. -/
def unit (x : List UInt8) : ByteArray := strOf (ub x)
theorem unit_list (x : List UInt8) : (unit x).data.toList = ub x := strOf_list _
theorem ub_len (l : List UInt8) : (ub l).length ≤ l.length := by
  have := congrArg List.length (ub_take l)
  rw [List.length_take] at this
  omega
/-- What the loop's cells hold. -/
structure SSt (B : Nat) (lv : Value) (us : List ByteArray) (k : Int) (W : World) : Prop where
  r : Boxed W B 23 (.slice none 0 0)
  e : Boxed W (B + 1) 24 (.int .i64 0)
  l : Boxed W (B + 1 + 1) 23 lv
  n : Boxed W (B + 1 + 1 + 1) 3 (.int .i64 k)
  row : RowS W lv us
  far : ∀ g, g ∈ ownOf lv → B + 1 + 1 + 1 + 1 ≤ g
  M : MaxL W
theorem rowS_grown {W W' : World} {row : Option Nat} {lv : Value} {us : List ByteArray} (h : RowS W lv us) (hg : W.grownBy W' row) (hr : ∀ r, row = some r → ∃ o : Obj, W.heap[r]? = some o ∧ o.isCells = false) : RowS W' lv us := by
  refine World.ownsRow.kept h hg ?_
  rcases h.2 with ⟨rfl, _⟩ | ⟨g, cap, cur, rfl, _, hgb, _⟩
  · exact .inl rfl
  · refine .inr fun e' => ?_
    obtain ⟨o, ho, hc⟩ := hr g (by simpa [Value.ownBlock] using e'.symm)
    rw [hgb] at ho
    cases ho
    cases hc
theorem SSt.grown {B : Nat} {lv : Value} {us : List ByteArray} {k : Int} {W W' : World} {row : Option Nat} (h : SSt B lv us k W) (hg : W.grownBy W' row)
    (hr : ∀ r, row = some r → ∃ o : Obj, W.heap[r]? = some o ∧ o.isCells = false) : SSt B lv us k W' := by
  have hb : ∀ {k : Nat} {t : TypeId} {v : Value}, Boxed W k t v → Boxed W' k t v := fun {k t v} hk => hk.kept hg (fun e => by
    obtain ⟨o, ho, hn⟩ := hr k e.symm
    have hk' : W.heap[k]? = some (.cells #[v] t (0, 0)) := hk
    rw [hk'] at ho
    injection ho with ho
    subst ho
    cases hn)
  obtain ⟨m, hm⟩ := h.M
  exact ⟨hb h.r, hb h.e, hb h.l, hb h.n, rowS_grown h.row hg hr, h.far, ⟨m, cell_kept hm hg hr⟩⟩
theorem SSt.drew {B : Nat} {lv : Value} {us : List ByteArray} {k : Int} {W : World} (h : SSt B lv us k W) : SSt B lv us k W.drew := ⟨h.r, h.e, h.l, h.n, h.row, h.far, h.M⟩
theorem row_ne {W : World} {lv : Value} {us : List ByteArray} {B b : Nat} (h : RowS W lv us) (hf : ∀ g, g ∈ ownOf lv → B + 1 + 1 + 1 + 1 ≤ g) (hb : b < B + 1 + 1 + 1 + 1) : lv.ownBlock = none ∨ lv.ownBlock ≠ some b := by
  rcases h.2 with ⟨rfl, _⟩ | ⟨g, cap, cur, rfl, _, hgb, _⟩
  · exact .inl rfl
  · refine .inr fun e => ?_
    have := hf g (by simp [ownOf, Value.ownBlock])
    have e : g = b := by simpa [Value.ownBlock] using e
    omega
theorem SSt.setN {B : Nat} {lv : Value} {us : List ByteArray} {k : Int} {W : World} (h : SSt B lv us k W) (hg : 0 < B) (k' : Int) : SSt B lv us k' (W.setCell ⟨B + 1 + 1 + 1, 0, none⟩ (.int .i64 k')) :=
  ⟨h.r.kept (grownBy_setCell' _ _ _) (fun e => by injection e with e; omega), h.e.kept (grownBy_setCell' _ _ _) (fun e => by injection e with e; omega), h.l.kept (grownBy_setCell' _ _ _) (fun e => by injection e with e; omega), h.n.set _,
    World.ownsRow.kept h.row (grownBy_setCell' _ _ _) (row_ne h.row h.far (by omega)), h.far, h.M.below ((Below.refl B W).setCell (p := ⟨B + 1 + 1 + 1, 0, none⟩) (by simp; omega) _) hg⟩
theorem rowS_cells {W : World} {lv : Value} {us : List ByteArray} (h : RowS W lv us) {k : Nat} {o : Obj} (hk : W.heap[k]? = some o) (hn : o.isCells = false) : k ∉ ownOf lv := by
  rcases h.2 with ⟨rfl, _⟩ | ⟨g, cap, cur, rfl, _, hgb, _⟩
  · simp [ownOf, Value.ownBlock]
  · intro e
    have e : k = g := by simpa [ownOf, Value.ownBlock] using e
    subst e
    rw [hgb] at hk
    cases hk
    cases hn
/-- A unit's copy behind what was collected. -/
theorem SSt.collect {B : Nat} {lv : Value} {us : List ByteArray} {k : Int} {W : World} (h : SSt B lv us k W) (hg : 0 < B) (w1 : World) (hb : Below W.heap.size W w1) (u : ByteArray) (hl : us.length + 1 ≤ 1000000000) :
    ∃ sv2 w2, (Builtin.append_ #[23, 23] 23 #[lv, .slice (some ⟨w1.heap.size, 0, none⟩) 1 1]).run Try.prog (w1.alloc (.cells #[.string u] 9)) = .ok sv2 w2 ∧ Boxed w1 (B + 1 + 1) 23 lv ∧ Boxed w2 (B + 1 + 1) 23 lv ∧ (∃ a c, sv2 = .slice a (us.length + 1) c) ∧
      SSt B sv2 (us ++ [u]) k (w2.setCell ⟨B + 1 + 1, 0, none⟩ sv2) ∧ (∀ Bk, KeepsFrom Bk W (w2.setCell ⟨B + 1 + 1, 0, none⟩ sv2)) ∧ Below B W (w2.setCell ⟨B + 1 + 1, 0, none⟩ sv2) := by
  have bB : B + 1 + 1 + 1 < W.heap.size := h.n.lt
  have k1 : ∀ {b : Nat} {t : TypeId} {v : Value}, Boxed W b t v → Boxed w1 b t v := fun hb1 => (hb.block _ hb1.lt).trans hb1
  have R1 : RowS w1 lv us := h.row.only (Only.of_below0 hb) (by simp)
  obtain ⟨sv2, w2, hrun, hrow, honly, hown⟩ := append_str w1 lv us u R1 hl
  have nin : ∀ b, b < B + 1 + 1 + 1 + 1 → b ∉ ownOf lv := fun b hb hm => by have := h.far b hm; omega
  have k2 : ∀ {b : Nat} {t : TypeId} {v : Value}, b < B + 1 + 1 + 1 + 1 → Boxed W b t v → Boxed w2 b t v := fun {b t v} hlt hb1 => (honly.block b (k1 hb1).lt (nin b hlt)).trans (k1 hb1)
  have far2 : ∀ g, g ∈ ownOf sv2 → B + 1 + 1 + 1 + 1 ≤ g := fun g hm => by
    rcases hown g hm with e | e
    · exact h.far g e
    · have := hb.size; omega
  have B1 : Below B W w2 := (hb.mono (by omega)).trans (honly.below (by have := hb.size; omega) (fun g hm => by have := h.far g hm; omega))
  obtain ⟨a2, c2, hform, _⟩ := hrow.form
  rw [List.length_append] at hform
  refine ⟨sv2, w2, hrun, k1 h.l, k2 (by omega) h.l, ⟨a2, c2, hform⟩, ⟨?_, ?_, (k2 (by omega) h.l).set _, ?_, ?_, far2, ?_⟩, fun Bk => ?_, B1.setCell (p := ⟨B + 1 + 1, 0, none⟩) (by simp; omega) _⟩
  · exact (k2 (by omega) h.r).kept (grownBy_setCell' _ _ _) (fun e => by injection e with e; omega)
  · exact (k2 (by omega) h.e).kept (grownBy_setCell' _ _ _) (fun e => by injection e with e; omega)
  · exact (k2 (by omega) h.n).kept (grownBy_setCell' _ _ _) (fun e => by injection e with e; omega)
  · exact World.ownsRow.kept hrow (grownBy_setCell' _ _ _) (row_ne hrow far2 (by omega))
  · exact h.M.below (B1.setCell (p := ⟨B + 1 + 1, 0, none⟩) (by simp; omega) _) hg
  · refine KeepsFrom.trans ⟨Nat.le_trans hb.size honly.size, fun j o hk ho hn => ?_⟩ ((KeepsOthers.setCell _ _ _).from _)
    have h1 : w1.heap[j]? = some o := (hb.block j (Array.getElem?_eq_some_iff.1 ho).1).trans ho
    exact (honly.block j (Array.getElem?_eq_some_iff.1 h1).1 (rowS_cells R1 h1 hn)).trans h1
/-- Between two rounds; behind a round that ended the loop. -/
def unitsOf (pre : List Rst) : List ByteArray := ((strs pre).take 4096).map unit
def okAll (ys : List (List UInt8)) : Bool := ys.all (fun x => mayB (ub x))
def SI (w : World) (pre : List Rst) (W : World) : Prop := ((∃ lv, SSt w.heap.size lv (unitsOf pre) pre.length W) ∧ okAll (strs pre) = true) ∧ Below w.heap.size w W
def SX (w : World) (c : Code) (pre : List Rst) (W : World) : Prop := (c = .ret ∧ okAll (strs pre) = false ∧ Boxed W w.heap.size 23 (.slice none 0 0) ∧ Boxed W (w.heap.size + 1) 24 (.int .i64 4)) ∧ Below w.heap.size w W
theorem SI.own (w : World) (B : Nat) (hB : w.heap.size ≤ B) : OwnFrom B (SI w) :=
  OwnFrom.and (fun pre A B row hs hg hr => by obtain ⟨⟨lv, h1⟩, h2⟩ := hs; exact ⟨⟨lv, h1.grown hg (fun r e => (hr r e).2)⟩, h2⟩) (ownFrom_below (Nat.le_refl _) hB)
theorem SX.own (w : World) (c : Code) (B : Nat) (hB : w.heap.size + 1 + 1 ≤ B) : OwnFrom B (SX w c) :=
  OwnFrom.and (fun pre A B row hs hg hr => by
    obtain ⟨h1, h2, h3, h4⟩ := hs
    exact ⟨h1, h2, h3.kept hg (fun e => by have := (hr _ e.symm).1; omega), h4.kept hg (fun e => by have := (hr _ e.symm).1; omega)⟩) (ownFrom_below (Nat.le_refl _) (by omega))
theorem sp_end0 (w W : World) (sv : Value) (us : List ByteArray) (k : Int) {t0 t1 : Value} {ts : List Value} (bR : Boxed W w.heap.size 23 sv) (bE : Boxed W (w.heap.size + 1) 24 (.int .i64 k)) (hB : Below w.heap.size w W)
    (hH : Holds W sv us) (r : List ByteArray × Int) (hr : r = (us, k)) :
    bodyPostM Fence.wide 5 Try.prog Try.f12 (fun e w' => ∃ sv, e = .returned (.tuple #[sv, .int .i64 r.2]) ∧ Holds w' sv r.1 ∧ Only [] w w') Exit.ret
      { tmps := (t0 :: t1 :: .pointer (some ⟨w.heap.size, 0, none⟩) :: .pointer (some ⟨w.heap.size + 1, 0, none⟩) :: ts).toArray, defers := [] } W := by
  subst hr
  have hr5 := bR.cell
  have he5 := bE.cell
  refine ⟨.tuple #[sv, .int .i64 k], ?_, sv, rfl, hH, Only.of_below0 hB⟩
  simp [results, Try.f12, go_sem, hr5, he5]
theorem sp_end (w W : World) (D : Nat) (sv : Value) (us : List ByteArray) (k : Int) {t0 t1 : Value} {ts : List Value} (bR : Boxed W w.heap.size 23 sv) (bE : Boxed W (w.heap.size + 1) 24 (.int .i64 k)) (hB : Below w.heap.size w W)
    (hK : W.heap[D]? = some (.deferred (some []))) (hD : w.heap.size ≤ D) (hH : Holds W sv us) (r : List ByteArray × Int) (hr : r = (us, k)) :
    bodyPostM Fence.wide 5 Try.prog Try.f12 (fun e w' => ∃ sv, e = .returned (.tuple #[sv, .int .i64 r.2]) ∧ Holds w' sv r.1 ∧ Only [] w w') Exit.ret
      { tmps := (t0 :: t1 :: .pointer (some ⟨w.heap.size, 0, none⟩) :: .pointer (some ⟨w.heap.size + 1, 0, none⟩) :: ts).toArray, defers := [{ target := Target.collected D, args := #[] }] } W := by
  subst hr
  refine ⟨by simp, .inl ⟨_, _, rfl, run_takeDeferred hK, ?_⟩⟩
  have ck : ∀ {p : Addr} {v : Value}, W.cell? p = some v → (W.putObj D (.deferred none)).cell? p = some v := fun h => cell_kept h (grownBy_putObj' W D (.deferred none)) (fun r e => by cases e; exact ⟨_, hK, rfl⟩)
  have hr5 := ck bR.cell
  have he5 := ck bE.cell
  refine ⟨.tuple #[sv, .int .i64 k], ?_, sv, rfl, ?_, Only.of_below0 (hB.trans (belowK_b (w := w) (Nat.le_refl _) W D _ _ hD hK rfl rfl))⟩
  · simp [results, Try.f12, go_sem, hr5, he5]
  · obtain ⟨a, c, rfl, hc⟩ := hH
    refine ⟨a, c, rfl, fun j x hj => ?_⟩
    obtain ⟨ad, rfl, hx⟩ := hc j x hj
    exact ⟨ad, rfl, ck hx⟩
theorem holds_nil (W : World) : Holds W (.slice none 0 0) [] := ⟨none, 0, rfl, fun j x hj => by simp at hj⟩
/-- An append as a step of a fenced region, by what it does. -/
theorem step_append_eqIn {F : Fence} {n : Nat} {P : Program} {ops : Array Oper} {o : Oper} {a : Act} {w : World} {K : Act → World → Prop} {Q : Exit → Act → World → Prop} {E : Prop}
    (hg : o.guard = none) (s x : Operand) (t1 t2 : TypeId) (hop : o.op = Op.call { callee := Callee.builtin Builtin.append, args := #[s, x], argTypes := #[t1, t2] })
    (v xv : Value) (hs : a.eval s = v) (hx : a.eval x = xv) (v' : Value) (w' : World) (hrun : (Builtin.append_ #[t1, t2] o.type #[v, xv]).run P w = .ok v' w')
    (hK : K (a.put o.dst v') w') : if Region.wanted o (yielded ops a.tmps) = true then Oper.wpIn F n P o a w K Q else E := by
  have hw : Region.wanted o (yielded ops a.tmps) = true := by simp [Region.wanted, hg]
  rw [if_pos hw]
  unfold Oper.wpIn
  have hsem : o.semAt F.round a.eval = execOp a.eval o := by
    cases hF : F.round with
    | none => rfl
    | some l => exact Oper.semAt_some l _ o (fun c e => by rw [hop] at e; cases e)
  rw [hsem]
  refine ⟨?_, ?_⟩
  · intro f hf
    simp [Oper.about, hop, resolve, Target.leads, go_sem] at hf
  · simp [execOp, hop, resolve, invoke, builtin, hs, hx, hrun, Result.andThen]
    exact hK

set_option maxRecDepth 100000 in
set_option maxHeartbeats 4000000 in
theorem split_any (s : ByteArray) (w : World) (hM : MaxL w) (hs : s.size ≤ 100000000) :
    Calls Try.prog 12 #[.string s] w fun e w' => ∃ sv, e = .returned (.tuple #[sv, .int .i64 (splitR s).2]) ∧ Holds w' sv (splitR s).1 ∧ Only [] w w' := by
  refine (callsIn_wide (n := 5)).1 ?_
  refine callsIn_of_wp_marks Try.func12 rfl trivial ?_ rfl
  simp only [Try.ntmps12, List.size_toArray, List.length_cons, List.length_nil, Nat.reduceAdd, Nat.reduceSub, Array.replicate_succ, Array.replicate_zero, List.push_toArray, List.append_toArray, List.nil_append, List.cons_append]
  obtain ⟨R, hR⟩ : ∃ R, R = splitR s := ⟨_, rfl⟩
  rw [← hR]
  have bx : ∀ (W : World) (t1 t2 : TypeId) (v1 v2 : Value), Boxed ((W.alloc (.cells #[v1] t1)).alloc (.cells #[v2] t2)) W.heap.size t1 v1 ∧ Boxed ((W.alloc (.cells #[v1] t1)).alloc (.cells #[v2] t2)) (W.heap.size + 1) t2 v2 := fun W t1 t2 v1 v2 => by
    refine ⟨(Boxed.new W t1 v1).alloc _, ?_⟩
    have := Boxed.new (W.alloc (.cells #[v1] t1)) t2 v2
    rw [World.size_alloc] at this
    exact this
  have bl : ∀ (o1 o2 : Obj), Below w.heap.size w ((w.alloc o1).alloc o2) := fun o1 o2 => ((Below.refl _ w).alloc (Nat.le_refl _) _).alloc (by simp) _
  by_cases hL : 16777216 < s.size
  · have i1 : (16777216 : Int) < (s.size : Int) := by omega
    have E := hR.trans (splitR_long hL)
    clear hL hR
    gi_wp2
    exact sp_end0 w _ _ [] 6 (bx _ _ _ _ _).1 (bx _ _ _ _ _).2 (bl _ _) (holds_nil _) R E
  · have i1 : ¬ (16777216 : Int) < (s.size : Int) := by omega
    have UB := fun w => ub_any s w hs
    by_cases hU : ub s.data.toList = []
    · have PR := parse_rests hU
      rw [hU, show strOf [] = ⟨#[]⟩ from rfl] at UB
      have HR := hid hR
      clear hR
      gi_wp2_with (refine ⟨trivial, ?_⟩; gi_at_call 22; refine (callsIn_wide.2 (UB _)).mono ?_; rintro e w' ⟨rfl, rfl⟩)
      gi_wp2_with (refine ⟨trivial, ?_⟩; gi_at_call 23; refine (it_in Fence.wide _ trivial rfl s _).mono ?_; rintro e w' ⟨rfl, rfl⟩)
      have hML : 0 < w.heap.size := hM.lt
      have g0 : ∀ (W : World), Boxed ((((((W.alloc (.cells #[.slice none 0 0] 23)).alloc (.cells #[.int .i64 0] 24)).alloc (.cells #[.slice none 0 0] 23)).alloc (.cells #[.int .i64 0] 3)).alloc (.cells #[.string s] 9))) (W.heap.size + 1 + 1 + 1 + 1) 9 (.string s) ∧
          (MaxL W → SSt W.heap.size (.slice none 0 0) [] 0 ((((((W.alloc (.cells #[.slice none 0 0] 23)).alloc (.cells #[.int .i64 0] 24)).alloc (.cells #[.slice none 0 0] 23)).alloc (.cells #[.int .i64 0] 3)).alloc (.cells #[.string s] 9)))) ∧
          Below W.heap.size W ((((((W.alloc (.cells #[.slice none 0 0] 23)).alloc (.cells #[.int .i64 0] 24)).alloc (.cells #[.slice none 0 0] 23)).alloc (.cells #[.int .i64 0] 3)).alloc (.cells #[.string s] 9))) := fun W => by
        have n1 : ∀ (W : World) (t : TypeId) (v : Value) (k : Nat), k = W.heap.size → Boxed (W.alloc (.cells #[v] t)) k t v := fun W t v k hk => by subst hk; exact Boxed.new W t v
        have hb : Below W.heap.size W ((((((W.alloc (.cells #[.slice none 0 0] 23)).alloc (.cells #[.int .i64 0] 24)).alloc (.cells #[.slice none 0 0] 23)).alloc (.cells #[.int .i64 0] 3)).alloc (.cells #[.string s] 9))) :=
          ((((((Below.refl _ W).alloc (Nat.le_refl _) _).alloc (by simp) _).alloc (by simp; omega) _).alloc (by simp; omega) _).alloc (by simp; omega) _)
        refine ⟨n1 _ _ _ _ (by simp), fun hM => ⟨((((n1 _ _ _ _ rfl).alloc _).alloc _).alloc _).alloc _, (((n1 _ _ _ _ (by simp)).alloc _).alloc _).alloc _, ((n1 _ _ _ _ (by simp)).alloc _).alloc _, (n1 _ _ _ _ (by simp)).alloc _, ⟨rfl, .inl ⟨rfl, rfl⟩⟩, by simp [ownOf, Value.ownBlock], hM.below hb hM.lt⟩, hb⟩
      obtain ⟨gX, gS, gB⟩ := g0 w
      have gS := gS hM
      clear g0 bx bl
      obtain ⟨W0, hW0⟩ : ∃ W0, (((((w.alloc (.cells #[.slice none 0 0] 23)).alloc (.cells #[.int .i64 0] 24)).alloc (.cells #[.slice none 0 0] 23)).alloc (.cells #[.int .i64 0] 3)).alloc (.cells #[.string s] 9)) = W0 := ⟨_, rfl⟩
      have hsz0 : W0.heap.size = w.heap.size + 1 + 1 + 1 + 1 + 1 := by rw [← hW0]; simp
      rw [hW0] at gX gS gB ⊢
      clear hW0
      have hs2 : s.size ≤ 16777216 := by omega
      refine wpIn_rangeFunc_ownG rfl (by omega) (gf := 33) (lb := #[.pointer (some ⟨w.heap.size + 1 + 1 + 1 + 1, 0, none⟩)]) rfl trivial (enters_of Try.func33 (by kernel_rfl) rfl)
        (it_stops _ (by omega) (w.heap.size + 1 + 1 + 1 + 1) s hs2 _ (by omega) gS.M gX) keepsB_t (keepsB_b (by omega)) (Below.refl _ _) (fun _ => rfl)
        (SI w) (SX w) (SI.own w _ (by omega)) (fun c => SX.own w c _ (by omega))
        ⟨⟨⟨_, gS⟩, rfl⟩, gB⟩
        (fun x => { tmps := #[.string s, undef, .pointer (some ⟨w.heap.size, 0, none⟩), .pointer (some ⟨w.heap.size + 1, 0, none⟩), .pointer (some ⟨w.heap.size + 1 + 1, 0, none⟩), .pointer (some ⟨w.heap.size + 1 + 1 + 1, 0, none⟩),
          .string (strOf x.1), undef, .string s, .int .i64 s.size, .bool false, .string s, .string ⟨#[]⟩, .bool false, .string s, .func (.func 33) #[] #[.pointer (some ⟨w.heap.size + 1 + 1 + 1 + 1, 0, none⟩)], .string (strOf x.1),
          undef, undef, undef, undef, undef, undef, undef, undef, undef, undef, undef, undef, undef, undef, undef, undef, undef], defers := [] }) ?assign ?body ?done ?stop
      case assign =>
        intro l x W K hK
        gi_wp2
        exact hK
      case body =>
        rintro l pre x W ⟨⟨⟨lv, hS⟩, hok⟩, hB⟩ hlen
        have hx := x.2
        have UX : ∀ W : World, Calls Try.prog 22 #[.string (strOf x.1)] W fun e w' => e = .returned (.string (unit x.1)) ∧ w' = W := fun W => by
          have := ub_any (strOf x.1) W (by rw [strOf_size]; omega)
          rw [strOf_list] at this
          exact this
        have hul : (unit x.1).size ≤ 100000000 := by
          have := ub_len x.1
          unfold unit
          rw [strOf_size]
          omega
        have MX := may_any (unit x.1) W hS.M hul
        rw [unit_list] at MX
        have cN := hS.n.cell
        have fN := hS.n.frozen
        have cR := hS.r.cell
        have fR := hS.r.frozen
        have cE := hS.e.cell
        have fE := hS.e.frozen
        have hok2 : okAll (strs (pre ++ [x])) = mayB (ub x.1) := by
          unfold okAll at hok ⊢
          rw [strs_snoc, List.all_append, hok]
          simp
        cases hm : mayB (ub x.1) with
        | false =>
          rw [hm] at MX hok2
          have bad : KeepsFrom W0.heap.size W ((W.setCell ⟨w.heap.size, 0, none⟩ (.slice none 0 0)).setCell ⟨w.heap.size + 1, 0, none⟩ (.int .i64 4)) ∧ SX w .ret (pre ++ [x]) ((W.setCell ⟨w.heap.size, 0, none⟩ (.slice none 0 0)).setCell ⟨w.heap.size + 1, 0, none⟩ (.int .i64 4)) :=
            ⟨((KeepsOthers.setCell _ _ _).trans (KeepsOthers.setCell _ _ _)).from _, ⟨rfl, hok2, (hS.r.set _).kept (grownBy_setCell' _ _ _) (fun e => by injection e with e; omega), (hS.e.kept (grownBy_setCell' _ _ _) (fun e => by injection e with e; omega)).set _⟩,
              (hB.setCell (p := ⟨w.heap.size, 0, none⟩) (Nat.le_refl _) _).setCell (p := ⟨w.heap.size + 1, 0, none⟩) (by simp) _⟩
          have Bad := hid bad
          clear bad hm hok2
          gi_wp2_with (first
            | (refine ⟨trivial, ?_⟩; gi_at_call 22; refine (CallsIn.inRound l (callsIn_wide.2 (UX _))).mono ?_; rintro e W ⟨rfl, rfl⟩)
            | (refine ⟨trivial, ?_⟩; gi_at_call 24; refine (CallsIn.inRound l (callsIn_wide.2 MX)).mono ?_; rintro e W ⟨rfl, rfl⟩))
          exact Bad.out
        | true =>
          rw [hm] at MX hok2
          have hk0 : (0 : Int) ≤ (pre.length : Int) := by omega
          have hk1 : (pre.length : Int) ≤ 16777216 := by omega
          have hle : w.heap.size + 1 + 1 + 1 < W.heap.size := hS.n.lt
          have hS1 := hS.setN hML ((pre.length : Int) + 1)
          have K1 : KeepsFrom W0.heap.size W (W.setCell ⟨w.heap.size + 1 + 1 + 1, 0, none⟩ (.int .i64 ((pre.length : Int) + 1))) := (KeepsOthers.setCell _ _ _).from _
          have B1 : Below w.heap.size W (W.setCell ⟨w.heap.size + 1 + 1 + 1, 0, none⟩ (.int .i64 ((pre.length : Int) + 1))) := (Below.refl _ W).setCell (p := ⟨w.heap.size + 1 + 1 + 1, 0, none⟩) (by simp; omega) _
          have el : ((pre ++ [x]).length : Int) = (pre.length : Int) + 1 := by simp
          have lp : (strs pre).length = pre.length := by simp [strs]
          by_cases hbig : 4096 ≤ pre.length
          · have i2 : ¬ (pre.length : Int) + 1 ≤ 4096 := by omega
            have eu : unitsOf (pre ++ [x]) = unitsOf pre := by
              unfold unitsOf
              rw [strs_snoc, List.take_append_of_le_length (by omega)]
            have good : KeepsFrom W0.heap.size W (W.setCell ⟨w.heap.size + 1 + 1 + 1, 0, none⟩ (.int .i64 ((pre.length : Int) + 1))) ∧ KeepB 0 W (W.setCell ⟨w.heap.size + 1 + 1 + 1, 0, none⟩ (.int .i64 ((pre.length : Int) + 1))) ∧
                SI w (pre ++ [x]) (W.setCell ⟨w.heap.size + 1 + 1 + 1, 0, none⟩ (.int .i64 ((pre.length : Int) + 1))) :=
              ⟨K1, B1.block _ hML, ⟨⟨lv, by rw [eu, el]; exact hS1⟩, hok2⟩, hB.trans B1⟩
            have Good := hid good
            clear good hm hok2 el lp eu hbig
            gi_wp2_with (first
              | (refine ⟨trivial, ?_⟩; gi_at_call 22; refine (CallsIn.inRound l (callsIn_wide.2 (UX _))).mono ?_; rintro e W ⟨rfl, rfl⟩)
              | (refine ⟨trivial, ?_⟩; gi_at_call 24; refine (CallsIn.inRound l (callsIn_wide.2 MX)).mono ?_; rintro e W ⟨rfl, rfl⟩))
            exact Good.out
          · have i2 : (pre.length : Int) + 1 ≤ 4096 := by omega
            have eu : unitsOf (pre ++ [x]) = unitsOf pre ++ [unit x.1] := by
              unfold unitsOf
              rw [strs_snoc, List.take_of_length_le (by simp; omega), List.take_of_length_le (by omega)]
              simp
            have ul : (unitsOf pre).length + 1 ≤ 1000000000 := by
              unfold unitsOf
              rw [List.length_map, List.length_take]
              omega
            obtain ⟨W2, hW2⟩ : ∃ W2, W2 = (W.setCell ⟨w.heap.size + 1 + 1 + 1, 0, none⟩ (.int .i64 ((pre.length : Int) + 1))).drew := ⟨_, rfl⟩
            have hS2 : SSt w.heap.size lv (unitsOf pre) ((pre.length : Int) + 1) W2 := by rw [hW2]; exact hS1.drew
            have CO := fun (w1 : World) (hb : Below _ _ w1) => hS2.collect hML w1 hb (unit x.1) ul
            have CL := fun W => clone_any (unit x.1) W hul
            have cL := hS2.l.cell
            have fin : ∀ sv2 Wf, SSt w.heap.size sv2 (unitsOf pre ++ [unit x.1]) ((pre.length : Int) + 1) Wf → (∀ Bk, KeepsFrom Bk W2 Wf) → Below w.heap.size W2 Wf →
                KeepsFrom W0.heap.size W Wf ∧ KeepB 0 W Wf ∧ SI w (pre ++ [x]) Wf := fun sv2 Wf h1 h2 h3 => by
              rw [hW2] at h2 h3
              have B2 : Below w.heap.size W Wf := B1.drew.trans h3
              refine ⟨K1.trans ⟨(h2 W0.heap.size).1, (h2 W0.heap.size).2⟩, B2.block _ hML, ⟨⟨sv2, by rw [eu, el]; exact h1⟩, hok2⟩, hB.trans B2⟩
            have Fin := hid fin
            have CO := hid CO
            have HW := hid hW2
            clear hS1 hS2 K1 B1 hW2
            clear fin hm hok2 el lp eu hbig
            gi_wp2_with (first
              | (refine ⟨trivial, ?_⟩; gi_at_call 22; refine (CallsIn.inRound l (callsIn_wide.2 (UX _))).mono ?_; rintro e W ⟨rfl, rfl⟩)
              | (refine ⟨trivial, ?_⟩; gi_at_call 24; refine (CallsIn.inRound l (callsIn_wide.2 MX)).mono ?_; rintro e W ⟨rfl, rfl⟩))
            refine wpIn_region_any (by kernel_rfl) ?_
            refine Eq.mp (congrArg (wpAnyIn _ _ _ _ _ _ _ _ _) HW.out) ?_
            clear HW
            refine wpAnyIn_ready (rs := [0, 1]) (by kernel_rfl) (by simp) ?_
            refine AllReadyIn.cons rfl (fun K hK => ?_) (AllReadyIn.cons rfl (fun K hK => ?_) AllReadyIn.nil)
            · go_simp
              refine hK _ _ ?_
              clear hK K
              refine wpAnyIn_ready (rs := [1]) (by kernel_rfl) (by simp) ?_
              refine AllReadyIn.cons rfl (fun K hK => ?_) AllReadyIn.nil
              go_simp
              refine hK _ _ ?_
              clear hK K
              refine wpAnyIn_ready (rs := [2]) (by kernel_rfl) (by simp) ?_
              refine AllReadyIn.cons rfl (fun K hK => ?_) AllReadyIn.nil
              go_simp
              gi_wp2_with (refine ⟨trivial, ?_⟩; gi_at_call 25; refine (CallsIn.inRound l (callsIn_wide.2 (CL _))).mono ?_; rintro e w1 ⟨rfl, hb1⟩)
              obtain ⟨sv2, w2, hrun, b1, b2, ⟨a2, c2, rfl⟩, hS2, hk2, hB2⟩ := CO.out w1 hb1
              have cL1 := b1.cell
              have cL1a := (b1.alloc (.cells #[.string (unit x.1)] 9)).cell
              have cL2 := b2.cell
              have fL2 := b2.frozen
              have FN := hid (Fin.out _ _ hS2 hk2 hB2)
              have hrun := hid hrun
              clear hS2 hk2 hB2 hb1
              refine wpAnyIn_ready (rs := [3]) (by kernel_rfl) (by simp) ?_
              refine AllReadyIn.cons rfl (fun K hK => ?_) AllReadyIn.nil
              go_simp
              refine hK _ _ ?_
              clear hK K
              refine wpAnyIn_ready (rs := [4]) (by kernel_rfl) (by simp) ?_
              refine AllReadyIn.cons rfl (fun K hK => ?_) AllReadyIn.nil
              refine step_append_eqIn rfl _ _ _ _ rfl _ _ rfl rfl _ _ hrun.out ?_
              refine hK _ _ ?_
              clear hK K
              refine wpAnyIn_ready (rs := [5]) (by kernel_rfl) (by simp) ?_
              refine AllReadyIn.cons rfl (fun K hK => ?_) AllReadyIn.nil
              go_simp
              refine hK _ _ ?_
              clear hK K
              refine wpAnyIn_done (by kernel_rfl) ?_ _
              exact FN.out
            · go_simp
              refine hK _ _ ?_
              clear hK K
              refine wpAnyIn_ready (rs := [0, 2]) (by kernel_rfl) (by simp) ?_
              refine AllReadyIn.cons rfl (fun K hK => ?_) (AllReadyIn.cons rfl (fun K hK => ?_) AllReadyIn.nil)
              · go_simp
                refine hK _ _ ?_
                clear hK K
                refine wpAnyIn_ready (rs := [2]) (by kernel_rfl) (by simp) ?_
                refine AllReadyIn.cons rfl (fun K hK => ?_) AllReadyIn.nil
                go_simp
                gi_wp2_with (refine ⟨trivial, ?_⟩; gi_at_call 25; refine (CallsIn.inRound l (callsIn_wide.2 (CL _))).mono ?_; rintro e w1 ⟨rfl, hb1⟩)
                obtain ⟨sv2, w2, hrun, b1, b2, ⟨a2, c2, rfl⟩, hS2, hk2, hB2⟩ := CO.out w1 hb1
                have cL1 := b1.cell
                have cL1a := (b1.alloc (.cells #[.string (unit x.1)] 9)).cell
                have cL2 := b2.cell
                have fL2 := b2.frozen
                have FN := hid (Fin.out _ _ hS2 hk2 hB2)
                have hrun := hid hrun
                clear hS2 hk2 hB2 hb1
                refine wpAnyIn_ready (rs := [3]) (by kernel_rfl) (by simp) ?_
                refine AllReadyIn.cons rfl (fun K hK => ?_) AllReadyIn.nil
                go_simp
                refine hK _ _ ?_
                clear hK K
                refine wpAnyIn_ready (rs := [4]) (by kernel_rfl) (by simp) ?_
                refine AllReadyIn.cons rfl (fun K hK => ?_) AllReadyIn.nil
                refine step_append_eqIn rfl _ _ _ _ rfl _ _ rfl rfl _ _ hrun.out ?_
                refine hK _ _ ?_
                clear hK K
                refine wpAnyIn_ready (rs := [5]) (by kernel_rfl) (by simp) ?_
                refine AllReadyIn.cons rfl (fun K hK => ?_) AllReadyIn.nil
                go_simp
                refine hK _ _ ?_
                clear hK K
                refine wpAnyIn_done (by kernel_rfl) ?_ _
                exact FN.out
              · go_simp
                gi_wp2_with (refine ⟨trivial, ?_⟩; gi_at_call 25; refine (CallsIn.inRound l (callsIn_wide.2 (CL _))).mono ?_; rintro e w1 ⟨rfl, hb1⟩)
                obtain ⟨sv2, w2, hrun, b1, b2, ⟨a2, c2, rfl⟩, hS2, hk2, hB2⟩ := CO.out w1 hb1
                have cL1 := b1.cell
                have cL1a := (b1.alloc (.cells #[.string (unit x.1)] 9)).cell
                have cL2 := b2.cell
                have fL2 := b2.frozen
                have FN := hid (Fin.out _ _ hS2 hk2 hB2)
                have hrun := hid hrun
                clear hS2 hk2 hB2 hb1
                refine wpAnyIn_ready (rs := [0, 3]) (by kernel_rfl) (by simp) ?_
                refine AllReadyIn.cons rfl (fun K hK => ?_) (AllReadyIn.cons rfl (fun K hK => ?_) AllReadyIn.nil)
                · go_simp
                  refine hK _ _ ?_
                  clear hK K
                  refine wpAnyIn_ready (rs := [3]) (by kernel_rfl) (by simp) ?_
                  refine AllReadyIn.cons rfl (fun K hK => ?_) AllReadyIn.nil
                  go_simp
                  refine hK _ _ ?_
                  clear hK K
                  refine wpAnyIn_ready (rs := [4]) (by kernel_rfl) (by simp) ?_
                  refine AllReadyIn.cons rfl (fun K hK => ?_) AllReadyIn.nil
                  refine step_append_eqIn rfl _ _ _ _ rfl _ _ rfl rfl _ _ hrun.out ?_
                  refine hK _ _ ?_
                  clear hK K
                  refine wpAnyIn_ready (rs := [5]) (by kernel_rfl) (by simp) ?_
                  refine AllReadyIn.cons rfl (fun K hK => ?_) AllReadyIn.nil
                  go_simp
                  refine hK _ _ ?_
                  clear hK K
                  refine wpAnyIn_done (by kernel_rfl) ?_ _
                  exact FN.out
                · go_simp
                  refine hK _ _ ?_
                  clear hK K
                  refine wpAnyIn_ready (rs := [0]) (by kernel_rfl) (by simp) ?_
                  refine AllReadyIn.cons rfl (fun K hK => ?_) AllReadyIn.nil
                  go_simp
                  refine hK _ _ ?_
                  clear hK K
                  refine wpAnyIn_ready (rs := [4]) (by kernel_rfl) (by simp) ?_
                  refine AllReadyIn.cons rfl (fun K hK => ?_) AllReadyIn.nil
                  refine step_append_eqIn rfl _ _ _ _ rfl _ _ rfl rfl _ _ hrun.out ?_
                  refine hK _ _ ?_
                  clear hK K
                  refine wpAnyIn_ready (rs := [5]) (by kernel_rfl) (by simp) ?_
                  refine AllReadyIn.cons rfl (fun K hK => ?_) AllReadyIn.nil
                  go_simp
                  refine hK _ _ ?_
                  clear hK K
                  refine wpAnyIn_done (by kernel_rfl) ?_ _
                  exact FN.out
      case done =>
        rintro D ys W hD hys ⟨⟨⟨lv, hS⟩, hok⟩, hB⟩ hK
        have hle : w.heap.size + 1 + 1 + 1 < W.heap.size := hS.n.lt
        have cN := hS.n.cell
        have fN := hS.n.frozen
        have cL := hS.l.cell
        have fL := hS.l.frozen
        have cR := hS.r.cell
        have fR := hS.r.frozen
        have cE := hS.e.cell
        have fE := hS.e.frozen
        rw [hys] at hok
        have E := HR.out
        rw [splitR_some hL ((rests s.data.toList).map unit) (by
          rw [PR, if_pos (show (rests s.data.toList).all (fun r => mayB (ub r)) = true from hok), List.map_map]
          refine congrArg some (List.map_congr_left fun y _ => ?_)
          exact (unit_list y).symm)] at E
        have ln : ys.length = (rests s.data.toList).length := by rw [← hys]; simp [strs]
        rw [List.length_map, ← ln] at E
        by_cases hbig : 4096 < ys.length
        · rw [if_pos hbig] at E
          have i2 : (4096 : Int) < (ys.length : Int) := by omega
          have E2 := hid E
          clear hbig E ln
          gi_wp2
          exact sp_end w _ D _ [] 6 ((hS.r.set _).kept (grownBy_setCell' _ _ _) (fun e => by injection e with e; omega)) ((hS.e.kept (grownBy_setCell' _ _ _) (fun e => by injection e with e; omega)).set _)
            ((hB.setCell (p := ⟨w.heap.size, 0, none⟩) (Nat.le_refl _) _).setCell (p := ⟨w.heap.size + 1, 0, none⟩) (by simp) _)
            (((KeepsOthers.setCell _ ⟨w.heap.size, 0, none⟩ _).trans (KeepsOthers.setCell _ ⟨w.heap.size + 1, 0, none⟩ _)).same D _ hK rfl) (by omega) (holds_nil _) R E2.out
        · rw [if_neg hbig] at E
          have i2 : ¬ (4096 : Int) < (ys.length : Int) := by omega
          have eu : unitsOf ys = (rests s.data.toList).map unit := by
            unfold unitsOf
            rw [List.take_of_length_le (by simp [strs]; omega), hys]
          rw [← eu] at E
          have E2 := hid E
          clear E ln
          obtain ⟨al, cl, hlv, _⟩ := hS.row.form
          subst hlv
          have hRow : RowS ((W.setCell ⟨w.heap.size, 0, none⟩ (.slice al (unitsOf ys).length cl)).setCell ⟨w.heap.size + 1, 0, none⟩ (.int .i64 0)) (.slice al (unitsOf ys).length cl) (unitsOf ys) :=
            World.ownsRow.kept (World.ownsRow.kept hS.row (grownBy_setCell' _ _ _) (row_ne hS.row hS.far (by omega))) (grownBy_setCell' _ _ _) (row_ne hS.row hS.far (by omega))
          have bR := (hS.r.set (.slice al (unitsOf ys).length cl)).kept (grownBy_setCell' _ (w.heap.size + 1) (.int .i64 0)) (fun e => by injection e with e; omega)
          have bE := (hS.e.kept (grownBy_setCell' _ w.heap.size (.slice al (unitsOf ys).length cl)) (fun e => by injection e with e; omega)).set (.int .i64 0)
          have hRow := hid hRow
          have bR := hid bR
          have bE := hid bE
          clear hbig eu
          gi_wp2
          exact sp_end w _ D _ (unitsOf ys) 0 bR.out bE.out
            ((hB.setCell (p := ⟨w.heap.size, 0, none⟩) (Nat.le_refl _) _).setCell (p := ⟨w.heap.size + 1, 0, none⟩) (by simp) _)
            (((KeepsOthers.setCell _ ⟨w.heap.size, 0, none⟩ _).trans (KeepsOthers.setCell _ ⟨w.heap.size + 1, 0, none⟩ _)).same D _ hK rfl) (by omega) hRow.out.holds R E2.out
      case stop =>
        rintro D c pre W hD hpre ⟨⟨rfl, hu, bR, bE⟩, hB⟩ hK
        have hno : ¬ okAll (rests s.data.toList) = true := fun e => by
          obtain ⟨t, ht⟩ := hpre
          unfold okAll at e hu
          rw [← ht, List.all_append, hu] at e
          simp at e
        have E := HR.out
        rw [splitR_none hL (by rw [PR]; exact if_neg hno)] at E
        gi_wp2
        exact sp_end w _ D _ [] 4 bR bE hB hK (by omega) (holds_nil _) R E
    · have E := hR.trans (splitR_none hL (parse_before hU))
      have ne : ¬ (strOf (ub s.data.toList)).toList = [] := by rw [Lib.toList_data, strOf_list]; exact hU
      obtain ⟨p, hp⟩ : ∃ p, p = strOf (ub s.data.toList) := ⟨_, rfl⟩
      rw [← hp] at UB ne
      have em : p.toList.isEmpty = false := by rw [List.isEmpty_eq_false_iff]; exact ne
      clear hL hR hU hp
      gi_wp2_with (refine ⟨trivial, ?_⟩; gi_at_call 22; refine (callsIn_wide.2 (UB _)).mono ?_; rintro e w' ⟨rfl, rfl⟩)
      exact sp_end0 w _ _ [] 4 (bx _ _ _ _ _).1 (bx _ _ _ _ _).2 (bl _ _) (holds_nil _) R E
end Go.Proofs.Ytfigmjlnjaihnaa

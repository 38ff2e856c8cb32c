/- A region that draws its order, operation by operation: whatever has been done already, each does what it promises (F), and what the others promised stays. No order is looked at. -/
import Derived.Deep.RegionHeld3
import Derived.Test.YtpmmnjeomdjakaaDoorMmb1
namespace Go.Proofs.YtpmmnjeomdjakaaDoor
set_option linter.unusedVariables false
set_option linter.unusedSimpArgs false
open Go.RowKit

section
variable {P : Program} {ops : Array Oper} {Q : Exit → Act → World → Prop} {md : Region.Mode}
/-- Where an operation writes. -/
def dstAt (ops : Array Oper) (i : Nat) : Nat := match (ops[i]?).bind (·.dst) with
  | some t => t
  | none => 0
/-- Each operation writes a slot of its own, and waits for earlier ones alone. -/
def rgB (md : Region.Mode) (ops : Array Oper) (size : Nat) : Bool :=
  (List.range ops.size).all fun i => match ops[i]? with
    | some o => (match o.dst with
      | some t => decide (t < size) && (List.range i).all fun j => dstAt ops j != t
      | none => false) && o.after.all fun e => !Region.binds md e || decide (e.on < i)
    | none => false
theorem rgB_spec {size : Nat} (h : rgB md ops size = true) {i : Nat} {o : Oper} (ho : ops[i]? = some o) :
    (o.dst = some (dstAt ops i) ∧ dstAt ops i < size ∧ ∀ j, j < i → dstAt ops j ≠ dstAt ops i) ∧ ∀ e ∈ o.after, Region.binds md e = true → e.on < i := by
  have hi : i < ops.size := (Array.getElem?_eq_some_iff.1 ho).1
  unfold rgB at h
  rw [List.all_eq_true] at h
  have h1 := h i (List.mem_range.2 hi)
  rw [ho] at h1
  simp only [Bool.and_eq_true] at h1
  obtain ⟨h1, h2⟩ := h1
  constructor
  · cases hd : o.dst with
    | none => rw [hd] at h1; cases h1
    | some t =>
      rw [hd] at h1
      simp only [Bool.and_eq_true, decide_eq_true_eq, List.all_eq_true, List.mem_range, bne_iff_ne, ne_eq] at h1
      have e : dstAt ops i = t := by simp [dstAt, ho, hd]
      rw [e]
      exact ⟨rfl, h1.1, h1.2⟩
  · intro e he hb
    have := Array.all_eq_true_iff_forall_mem.1 h2 e he
    simpa [hb] using this
theorem rgB_ne {size : Nat} (h : rgB md ops size = true) {i j : Nat} (hi : i < ops.size) (hj : j < ops.size) (hij : i ≠ j) : dstAt ops i ≠ dstAt ops j := by
  rcases Nat.lt_or_gt_of_ne hij with hl | hl
  · exact (rgB_spec h (Array.getElem?_eq_getElem hj)).1.2.2 i hl
  · exact fun e => (rgB_spec h (Array.getElem?_eq_getElem hi)).1.2.2 j hl e.symm
theorem count_set_true {d : Array Bool} {i : Nat} (h : d.getD i true = false) : (d.setIfInBounds i true).toList.count false + 1 = d.toList.count false := by
  have hi : i < d.size := by
    by_cases hi : i < d.size
    · exact hi
    · simp [Array.getD, hi] at h
  have hd : d.toList[i]'(by simpa using hi) = false := by
    simp [Array.getD, hi] at h
    simpa using h
  rw [Array.toList_setIfInBounds, List.count_set (by simpa using hi)]
  simp only [hd]
  have h0 : 0 < d.toList.count false := List.count_pos_iff.2 (hd ▸ List.getElem_mem (by simpa using hi))
  rw [if_pos (by decide), if_neg (by decide)]
  omega
theorem eval_put_self {a : Act} {t : Nat} {v : Value} (h : t < a.tmps.size) : (a.put (some t) v).eval (.tmp t) = v := by
  simp [Act.put, Act.eval, h]
theorem eval_put_ne {a : Act} {t u : Nat} {v : Value} (h : t ≠ u) : (a.put (some t) v).eval (.tmp u) = a.eval (.tmp u) := by
  show (a.tmps.setIfInBounds t v).getD u undef = a.tmps.getD u undef
  simp only [Array.getD_eq_getD_getElem?]
  rw [Array.getElem?_setIfInBounds_ne h]
variable {F : Nat → Value → World → Prop} {S : World → Prop} {R : World → World → Prop} {a0 : Act}
/-- What holds whatever has been done: d. -/
structure RgInv (ops : Array Oper) (F : Nat → Value → World → Prop) (S : World → Prop) (a0 : Act) (d : Array Bool) (a : Act) (w : World) : Prop where
  s : S w
  size : a.tmps.size = a0.tmps.size
  defs : a.defers = a0.defers
  out : ∀ t, (∀ i, i < ops.size → dstAt ops i ≠ t) → a.eval (.tmp t) = a0.eval (.tmp t)
  did : ∀ i, i < ops.size → d.getD i true = true → F i (a.eval (.tmp (dstAt ops i))) w
theorem wpAny_rg (hB : rgB md ops a0.tmps.size = true) (hF : ∀ i v w w', F i v w → R w w' → F i v w')
    (step : ∀ (i : Nat) (o : Oper), ops[i]? = some o → ∀ (a : Act) (w : World), S w → a.tmps.size = a0.tmps.size → (∀ t, (∀ i, i < ops.size → dstAt ops i ≠ t) → a.eval (.tmp t) = a0.eval (.tmp t)) →
      (∀ j, (o.after.any fun e => Region.binds md e && e.on == j) = true → F j (a.eval (.tmp (dstAt ops j))) w) →
      ∀ K : Act → World → Prop, (∀ v w', F i v w' → S w' → R w w' → K (a.put o.dst v) w') → if Region.wanted o (yielded ops a.tmps) = true then o.wp P a w K Q else K (a.put o.dst undef) w)
    (fin : ∀ a w, S w → a.tmps.size = a0.tmps.size → a.defers = a0.defers → (∀ t, (∀ i, i < ops.size → dstAt ops i ≠ t) → a.eval (.tmp t) = a0.eval (.tmp t)) → (∀ i, i < ops.size → F i (a.eval (.tmp (dstAt ops i))) w) → Q .normal a w) :
    ∀ (f : Nat) (d : Array Bool) (a : Act) (w : World), RgInv ops F S a0 d a w → d.size = ops.size → d.toList.count false ≤ f → wpAny P md ops Q f d a w := by
  have full : ∀ (d : Array Bool) a w, RgInv ops F S a0 d a w → (∀ i, i < ops.size → d.getD i true = true) → Q .normal a w := fun d a w h hd => fin a w h.s h.size h.defs h.out (fun i hi => h.did i hi (hd i hi))
  intro f
  induction f with
  | zero =>
    intro d a w h hs hc
    have all : ∀ i, i < ops.size → d.getD i true = true := fun i hi => by
      cases hb : d.getD i true with
      | true => rfl
      | false => have := count_set_true hb; omega
    refine ⟨?_, full d a w h all⟩
    rw [List.eq_nil_iff_forall_not_mem]
    intro j hj
    obtain ⟨h1, o, ho, _⟩ := mem_ready.1 hj
    rw [all j (Array.getElem?_eq_some_iff.1 ho).1] at h1
    cases h1
  | succ f ih =>
    intro d a w h hs hc
    refine ⟨fun hr => full d a w h ?_, fun i hi => ?_⟩
    · intro i
      induction i using Nat.strongRecOn with
      | ind i hind =>
        intro hi
        cases hb : d.getD i true with
        | true => rfl
        | false =>
          exfalso
          have ho := Array.getElem?_eq_getElem hi
          have : i ∈ Region.ready md ops d := mem_ready.2 ⟨hb, _, ho, fun e he hbe => by
            have hl := (rgB_spec hB ho).2 e he hbe
            have h3 := hind e.on hl (by omega)
            have hsz : e.on < d.size := by omega
            simp [Array.getD, hsz] at h3 ⊢
            exact h3⟩
          rw [hr] at this
          cases this
    · obtain ⟨hun, o, ho, hall⟩ := mem_ready.1 hi
      obtain ⟨⟨hd, hlt, hne⟩, hback⟩ := rgB_spec hB ho
      have hi' : i < ops.size := (Array.getElem?_eq_some_iff.1 ho).1
      have K : ∀ v w', F i v w' → S w' → R w w' → wpAny P md ops Q f (d.setIfInBounds i true) (a.put o.dst v) w' := fun v w' hv hS' hR => by
        refine ih _ _ _ ⟨hS', by rw [hd]; simp [Act.put, h.size], by rw [hd]; exact h.defs, fun t ht => ?_, fun j hj hdj => ?_⟩ (by simpa using hs) (by have := count_set_true hun; omega)
        · rw [hd, eval_put_ne (ht i hi')]
          exact h.out t ht
        · by_cases hij : i = j
          · subst hij
            rw [hd, eval_put_self (by rw [h.size]; exact hlt)]
            exact hv
          · rw [getD_set_ne true hij] at hdj
            rw [hd, eval_put_ne (rgB_ne hB hi' hj hij)]
            exact hF j _ w w' (h.did j hj hdj) hR
      have hst := step i o ho a w h.s h.size h.out (fun j hj => by
        simp only [Array.any_eq_true, Bool.and_eq_true, beq_iff_eq] at hj
        obtain ⟨m, hm, hb, rfl⟩ := hj
        have hon := hall _ (Array.getElem_mem hm) hb
        have hlt2 := hback _ (Array.getElem_mem hm) hb
        refine h.did _ (by omega) ?_
        have hsz : (o.after[m]).on < d.size := by omega
        simp [Array.getD, hsz] at hon ⊢
        exact hon) _ K
      unfold wpOp
      rw [ho]
      simp only
      by_cases hw : Region.wanted o (yielded ops a.tmps) = true
      · rw [if_pos hw] at hst ⊢
        exact .inl hst
      · rw [if_neg hw] at hst ⊢
        exact hst
theorem yielded_at {a : Act} {j t : Nat} {b : Bool} (hj : ((ops[j]?).bind (·.dst)) = some t) (h : a.eval (.tmp t) = .bool b) : yielded ops a.tmps j = some b := by
  unfold yielded
  rw [hj]
  have h' : a.tmps.getD t undef = .bool b := h
  rw [Array.getD_eq_getD_getElem?] at h'
  cases hx : a.tmps[t]? with
  | none => rw [hx] at h'; cases h'
  | some v => rw [hx] at h'; simp at h'; simp [hx, h']
/-- The beginning. -/
theorem wp_region_rg {id m : Nat} {w : World} (F : Nat → Value → World → Prop) (S : World → Prop) (R : World → World → Prop) (hm : P.follows .mixedOrders = true) (hz : ops.size = m) (hB : rgB .any ops a0.tmps.size = true) (hS : S w.drew) (hF : ∀ i v w w', F i v w → R w w' → F i v w')
    (step : ∀ (i : Nat) (o : Oper), i < m → ops[i]? = some o → ∀ (a : Act) (w : World), S w → a.tmps.size = a0.tmps.size → (∀ t, (∀ i, i < m → dstAt ops i ≠ t) → a.eval (.tmp t) = a0.eval (.tmp t)) →
      (∀ j, (o.after.any fun e => Region.binds .any e && e.on == j) = true → F j (a.eval (.tmp (dstAt ops j))) w) →
      ∀ K : Act → World → Prop, (∀ v w', F i v w' → S w' → R w w' → K (a.put o.dst v) w') → if Region.wanted o (yielded ops a.tmps) = true then o.wp P a w K Q else K (a.put o.dst undef) w)
    (fin : ∀ a w, S w → a.tmps.size = a0.tmps.size → a.defers = a0.defers → (∀ t, (∀ i, i < m → dstAt ops i ≠ t) → a.eval (.tmp t) = a0.eval (.tmp t)) → (∀ i, i < m → F i (a.eval (.tmp (dstAt ops i))) w) → Q .normal a w) : (Code.region id ops true).wp P Q a0 w := by
  subst hz
  refine wp_region_any hm (wpAny_rg hB hF (fun i o ho => step i o (Array.getElem?_eq_some_iff.1 ho).1 ho) fin _ _ _ _ ⟨hS, rfl, rfl, fun _ _ => rfl, fun i hi hd => ?_⟩ (by simp) ?_)
  · simp [Array.getD, hi] at hd
  · exact Nat.le_trans List.count_le_length (by simp)
end
end Go.Proofs.YtpmmnjeomdjakaaDoor
namespace Go.Proofs.YtpmmnjeomdjakaaDoor
set_option linter.unusedVariables false
set_option linter.unusedSimpArgs false
open Go.RowKit
/-- What an operation promises: a value, or a new row of cells. -/
inductive RgF where
  | val (c : Value)
  | row (T : TypeId) (n : Nat) (cs : Array Value)
def RgF.is : RgF → Value → World → Prop
  | .val c, v, _ => v = c
  | .row T n cs, v, w => ∃ g, v = .slice (some ⟨g, 0, none⟩) n n ∧ w.heap[g]? = some (.cells cs T (0, 0))
theorem RgF.is.only {f : RgF} {v : Value} {w w' : World} (h : f.is v w) (o : Only [] w w') : f.is v w' := by
  cases f with
  | val c => exact h
  | row T n cs =>
    obtain ⟨g, e, hg⟩ := h
    exact ⟨g, e, (o.block g (Array.getElem?_eq_some_iff.1 hg).1 (by simp)).trans hg⟩
section
variable {P : Program} {Q : Exit → Act → World → Prop}
/-- No operation writes this slot. -/
def outB (ops : Array Oper) (m t : Nat) : Bool := (List.range m).all fun i => dstAt ops i != t
/-- One operation keeps its promise, whatever has been done already. -/
abbrev StepOk (P : Program) (Q : Exit → Act → World → Prop) (ops : Array Oper) (m : Nat) (tab : List RgF) (W : World) (a0 : Act) (i : Nat) (o : Oper) : Prop :=
  ∀ (a : Act) (w : World), Only [] W w → a.tmps.size = a0.tmps.size → (∀ t, outB ops m t = true → a.eval (.tmp t) = a0.eval (.tmp t)) →
    (∀ j, (o.after.any fun e => Region.binds .any e && e.on == j) = true → (tab.getD j (.val undef)).is (a.eval (.tmp (dstAt ops j))) w) →
    ∀ K : Act → World → Prop, Hid (∀ v w', (tab.getD i (.val undef)).is v w' → Only [] w w' → K (a.put o.dst v) w') → if Region.wanted o (yielded ops a.tmps) = true then o.wp P a w K Q else K (a.put o.dst undef) w
inductive RgSteps (P : Program) (Q : Exit → Act → World → Prop) (ops : Array Oper) (m : Nat) (tab : List RgF) (W : World) (a0 : Act) : Nat → List Oper → Prop
  | nil (i : Nat) : RgSteps P Q ops m tab W a0 i []
  | cons {i : Nat} {o : Oper} {l : List Oper} (h : StepOk P Q ops m tab W a0 i o) (t : RgSteps P Q ops m tab W a0 (i + 1) l) : RgSteps P Q ops m tab W a0 i (o :: l)
theorem RgSteps.at {ops : Array Oper} {m : Nat} {tab : List RgF} {W : World} {a0 : Act} {i : Nat} {l : List Oper} (h : RgSteps P Q ops m tab W a0 i l) : ∀ (j : Nat) (o : Oper), l[j]? = some o → StepOk P Q ops m tab W a0 (i + j) o := by
  induction h with
  | nil i => intro j o h; simp at h
  | cons h t ih =>
    intro j o hj
    cases j with
    | zero =>
      simp at hj
      subst hj
      exact h
    | succ j =>
      simp at hj
      have := ih j o hj
      rw [Nat.add_assoc, Nat.add_comm 1 j] at this
      exact this
/-- A region by a table of promises. -/
theorem wp_region_rgT {id m : Nat} {l : List Oper} {W : World} {a0 : Act} (tab : List RgF) (hm : P.follows .mixedOrders = true) (hz : l.toArray.size = m) (hB : rgB .any l.toArray a0.tmps.size = true)
    (step : RgSteps P Q l.toArray m tab W a0 0 l)
    (fin : ∀ a w, Only [] W w → a.tmps.size = a0.tmps.size → a.defers = a0.defers → (∀ t, outB l.toArray m t = true → a.eval (.tmp t) = a0.eval (.tmp t)) → (∀ i, decide (i < m) = true → (tab.getD i (.val undef)).is (a.eval (.tmp (dstAt l.toArray i))) w) → Q .normal a w) : (Code.region id l.toArray true).wp P Q a0 W := by
  have conv : ∀ a : Act, (∀ t, (∀ i, i < m → dstAt l.toArray i ≠ t) → a.eval (.tmp t) = a0.eval (.tmp t)) → ∀ t, outB l.toArray m t = true → a.eval (.tmp t) = a0.eval (.tmp t) := fun a h t ht => h t (fun i hi => by
    unfold outB at ht
    rw [List.all_eq_true] at ht
    simpa using ht i (List.mem_range.2 hi))
  refine wp_region_rg (F := fun i => (tab.getD i (.val undef)).is) (S := fun w => Only [] W w) (R := fun w w' => Only [] w w') hm hz hB (Only.refl [] W).drew (fun i v w w' h o => h.only o) (fun i o hi ho a w hS hsz hout hd K hK => ?_) (fun a w hS hsz hdf hout hall => fin a w hS hsz hdf (conv a hout) (fun i hi => hall i (by simpa using hi)))
  have := step.at i o (by simpa using ho)
  rw [Nat.zero_add] at this
  exact this a w hS hsz (conv a hout) hd K (hid fun v w' hv ho => hK v w' hv (hS.trans ho) ho)
theorem rg_value {o : Oper} {a : Act} {w : World} {K : Act → World → Prop} {v : Value} (h : (execOp a.eval o).run P w = .ok (.value v) w) (hK : K (a.put o.dst v) w) : o.wp P a w K Q := by
  unfold Oper.wp
  rw [h]
  exact hK
/-- A function with a body. -/
theorem callFunc_body {f : FuncId} {vs : Array Value} {w : World} (h : (P.funcs[f]?).map (fun fn => !(fn.name == "runtime.NumGoroutine") && fn.body.isSome) = some true) : (callFunc f vs).run P w = .ok (.enter f vs) w := by
  unfold callFunc
  obtain ⟨fn, h1, h2⟩ := Option.map_eq_some_iff.1 h
  simp only [Bool.and_eq_true, Bool.not_eq_true', beq_eq_false_iff_ne, ne_eq] at h2
  obtain ⟨h2, h3⟩ := h2
  have h3' : ¬ fn.body = none := by intro e; rw [e] at h3; cases h3
  simp [h1, h2, h3', Result.andThen]
theorem rg_call {o : Oper} {a : Act} {w : World} {K : Act → World → Prop} (f : FuncId) (as : Array Operand) (ts : Array TypeId) (vs : Array Value) (ho : o.op = .call { callee := .value (.func f), args := as, argTypes := ts })
    (hf : (P.funcs[f]?).map (fun fn => !(fn.name == "runtime.NumGoroutine") && fn.body.isSome) = some true) (hx : as.map a.eval = vs)
    (h : Calls P f vs w fun e w' => ∃ v, e = .returned v ∧ K (a.put o.dst v) w') : o.wp P a w K Q := by
  have hc := callFunc_body (vs := vs) (w := w) hf
  unfold Oper.wp execOp
  simp only [ho]
  simp [resolve, invoke, Act.eval, hx, Result.andThen, Deferred.ofValue, hc]
  exact h.mono (fun e w' ⟨v, he, hk⟩ => by subst he; exact hk)
theorem rg_row {o : Oper} {a : Act} {w : World} {K : Act → World → Prop} (t : TypeId) (n : Nat) (parts : Array (Nat × Operand)) (ho : o.op = .buildSlice t n parts) (vs : Array (Nat × Value)) (hx : parts.map (fun (i, x) => (i, a.eval x)) = vs) (v : Value) (w' : World)
    (hr : (Instr.buildSlice t n vs).run P w = .ok v w') (hK : K (a.put o.dst v) w') : o.wp P a w K Q := by
  unfold Oper.wp execOp
  simp only [ho]
  simp [hx, hr, Result.andThen]
  exact hK
theorem rg_load {o : Oper} {a : Act} {w : World} {K : Act → World → Prop} (t : TypeId) (x : Operand) (ho : o.op = .load t x) (p : Addr) (v : Value)
    (hx : a.eval x = .pointer (some p)) (hl : (Instr.loadAt t (.pointer (some p))).run P w = .ok v w) (hK : K (a.put o.dst v) w) : o.wp P a w K Q := by
  refine rg_value ?_ hK
  unfold execOp
  simp only [ho, hx]
  simp [hl, Result.andThen]
def putL : Act → List (Nat × Value) → Act
  | a, [] => a
  | a, (d, v) :: l => putL (a.put (some d) v) l
inductive AllEv (a : Act) : List (Nat × Value) → Prop
  | nil : AllEv a []
  | cons {d : Nat} {v : Value} {l : List (Nat × Value)} (h : a.eval (.tmp d) = v) (t : AllEv a l) : AllEv a ((d, v) :: l)
theorem AllEv.mem {a : Act} {l : List (Nat × Value)} (h : AllEv a l) : ∀ p, p ∈ l → a.eval (.tmp p.1) = p.2 := by
  induction h with
  | nil => intro p hp; cases hp
  | cons h t ih =>
    intro p hp
    rcases List.mem_cons.1 hp with rfl | hp
    · exact h
    · exact ih p hp
theorem putL_size : ∀ (l : List (Nat × Value)) (a : Act), (putL a l).tmps.size = a.tmps.size ∧ (putL a l).defers = a.defers
  | [], a => ⟨rfl, rfl⟩
  | (d, v) :: l, a => by
    have := putL_size l (a.put (some d) v)
    exact ⟨this.1.trans (by simp [Act.put]), this.2⟩
theorem eval_putL_ne : ∀ (l : List (Nat × Value)) (a : Act) (t : Nat), (∀ p, p ∈ l → p.1 ≠ t) → (putL a l).eval (.tmp t) = a.eval (.tmp t)
  | [], a, t, h => rfl
  | (d, v) :: l, a, t, h => by
    rw [putL, eval_putL_ne l _ t (fun p hp => h p (List.mem_cons_of_mem _ hp)), eval_put_ne (h (d, v) (by simp))]
theorem eval_putL_mem : ∀ (l : List (Nat × Value)) (a : Act) (b : Act) (t : Nat), t < a.tmps.size → (∃ p, p ∈ l ∧ p.1 = t) → (∀ p, p ∈ l → b.eval (.tmp p.1) = p.2) → (putL a l).eval (.tmp t) = b.eval (.tmp t)
  | [], a, b, t, ht, h, hb => by obtain ⟨p, hp, _⟩ := h; cases hp
  | (d, v) :: l, a, b, t, ht, h, hb => by
    rw [putL]
    by_cases hl : ∃ p, p ∈ l ∧ p.1 = t
    · exact eval_putL_mem l _ b t (by simpa [Act.put] using ht) hl (fun p hp => hb p (List.mem_cons_of_mem _ hp))
    · rw [eval_putL_ne l _ t (fun p hp e => hl ⟨p, hp, e⟩)]
      obtain ⟨p, hp, rfl⟩ := h
      rcases List.mem_cons.1 hp with rfl | hp
      · rw [eval_put_self ht]
        exact (hb (d, v) (List.mem_cons_self)).symm
      · exact absurd ⟨p, hp, rfl⟩ hl
/-- The act behind a region, written out. -/
theorem rg_close {ops : Array Oper} {m : Nat} {a0 a : Act} (hsz : a.tmps.size = a0.tmps.size) (hdf : a.defers = a0.defers) (hout : ∀ t, outB ops m t = true → a.eval (.tmp t) = a0.eval (.tmp t)) (l : List (Nat × Value))
    (hds : (List.range m).map (dstAt ops) = l.map (·.1)) (h : AllEv a l) : a = putL a0 l := by
  have key : ∀ t, t < a0.tmps.size → a.eval (.tmp t) = (putL a0 l).eval (.tmp t) := fun t ht => by
    by_cases hl : ∃ p, p ∈ l ∧ p.1 = t
    · exact (eval_putL_mem l a0 a t ht hl h.mem).symm
    · rw [eval_putL_ne l a0 t (fun p hp e => hl ⟨p, hp, e⟩)]
      refine hout t ?_
      unfold outB
      rw [List.all_eq_true]
      intro i hi
      rw [bne_iff_ne]
      intro e
      have : dstAt ops i ∈ l.map (·.1) := hds ▸ List.mem_map_of_mem hi
      obtain ⟨p, hp, e2⟩ := List.mem_map.1 this
      exact hl ⟨p, hp, e2.trans e⟩
  obtain ⟨at1, ad⟩ := a
  obtain ⟨s1, s2⟩ := putL_size l a0
  have ht : at1 = (putL a0 l).tmps := by
    apply Array.ext
    · exact hsz.trans s1.symm
    · intro i h1 h2
      have := key i (by rw [← s1]; exact h2)
      simp only [Act.eval, Array.getD_eq_getD_getElem?] at this
      rw [Array.getElem?_eq_getElem h1, Array.getElem?_eq_getElem h2] at this
      exact this
  have hd : ad = (putL a0 l).defers := hdf.trans s2.symm
  rw [ht, hd]
end
end Go.Proofs.YtpmmnjeomdjakaaDoor

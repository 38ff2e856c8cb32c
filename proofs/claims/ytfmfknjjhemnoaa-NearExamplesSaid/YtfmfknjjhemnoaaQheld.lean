/- A region that draws its order: reads that may come at any time, calls that wait for one another, and a tail in the order of the text that may write what was read. -/
import Derived.Deep.RegionHeld3
import Derived.Test.YtfmfknjjhemnoaaQlex
namespace Go.Proofs.Ytfmfknjjhemnoaa
set_option linter.unusedVariables false
set_option linter.unusedSimpArgs false
open Go.RowKit

section
variable {P : Program} {ops : Array Oper} {Q : Exit → Act → World → Prop} {md : Region.Mode} {S : World → Prop} {n : Nat}
/-- Whatever order is picked from here on; S holds behind every operation as long as n has not come up. -/
def wpAnyT (P : Program) (md : Region.Mode) (ops : Array Oper) (Q : Exit → Act → World → Prop) (S : World → Prop) (n : Nat) : Nat → Array Bool → Act → World → Prop
  | 0, d, a, w => Region.ready md ops d = [] ∧ Q .normal a w
  | f + 1, d, a, w => (Region.ready md ops d = [] → Q .normal a w) ∧
    ∀ i ∈ Region.ready md ops d, wpOp P ops Q i (fun a' w' => ((d.setIfInBounds i true).getD n true = false → S w') ∧ wpAnyT P md ops Q S n f (d.setIfInBounds i true) a' w') a w
theorem wpAny_of_T : ∀ (f : Nat) (d : Array Bool) (a : Act) (w : World), wpAnyT P md ops Q S n f d a w → wpAny P md ops Q f d a w
  | 0, _, _, _, h => h
  | f + 1, _, _, _, h => ⟨h.1, fun i hi => wpOp_mono (fun a' w' h' => wpAny_of_T f _ a' w' h'.2) (h.2 i hi)⟩
/-- What is listed has all listed that it waits for. -/
def Shut' (md : Region.Mode) (ops : Array Oper) (d : Array Bool) : Prop := ∀ j oj, ops[j]? = some oj → d.getD j false = true → ∀ e ∈ oj.after, Region.binds md e = true → d.getD e.on false = true
def shutB (md : Region.Mode) (ops : Array Oper) (d : Array Bool) : Bool := (List.range ops.size).all fun j => !d.getD j false || match ops[j]? with
  | some o => o.after.all fun e => !Region.binds md e || d.getD e.on false
  | none => true
theorem shutB_spec {d : Array Bool} (h : shutB md ops d = true) : Shut' md ops d := fun j oj hj hd e he hb => by
  simp only [shutB, List.all_eq_true, List.mem_range] at h
  have h1 := h j (Array.getElem?_eq_some_iff.1 hj).1
  simp only [hj, hd, Bool.not_true, Bool.false_or] at h1
  have := Array.all_eq_true_iff_forall_mem.1 h1 e he
  simpa [hb] using this
theorem Shut'.set {d : Array Bool} (h : Shut' md ops d) {j : Nat} (hj : j ∈ Region.ready md ops d) : Shut' md ops (d.setIfInBounds j true) := fun k ok hk hd e he hb => by
  by_cases hjk : j = k
  · subst hjk
    obtain ⟨_, o, ho, hall⟩ := mem_ready.1 hj
    rw [hk] at ho
    obtain rfl := Option.some.inj ho
    exact getD_set_true (hall e he hb)
  · rw [getD_set_ne false hjk] at hd
    exact getD_set_true (h k ok hk hd e he hb)
/-- n waits for i, at once or by way of others. -/
def reachB (md : Region.Mode) (ops : Array Oper) (i : Nat) : Nat → Nat → Bool
  | 0, n => Region.waitsFor md ops n i
  | f + 1, n => Region.waitsFor md ops n i || (List.range ops.size).any fun m => Region.waitsFor md ops n m && reachB md ops i f m
theorem reach_listed {d : Array Bool} {i : Nat} (hc : Shut' md ops d) : ∀ (f n : Nat), reachB md ops i f n = true → (∀ on, ops[n]? = some on → ∀ e ∈ on.after, Region.binds md e = true → d.getD e.on false = true) → d.getD i false = true := by
  have one : ∀ n m, Region.waitsFor md ops n m = true → (∀ on, ops[n]? = some on → ∀ e ∈ on.after, Region.binds md e = true → d.getD e.on false = true) → d.getD m false = true := fun n m h hn => by
    obtain ⟨on, hon, e, he, hb, heq⟩ := Region.waitsFor_spec h
    have := hn on hon e he hb
    rwa [heq] at this
  intro f
  induction f with
  | zero => exact fun n h hn => one n i h hn
  | succ f ih =>
    intro n h hn
    simp only [reachB, Bool.or_eq_true, List.any_eq_true, List.mem_range, Bool.and_eq_true] at h
    rcases h with h | ⟨m, _, h1, h2⟩
    · exact one n i h hn
    · exact ih m h2 (fun om hom e he hb => hc m om hom (one n m h1 hn) e he hb)
theorem wpAnyT_first {i : Nat} {oi : Oper} {v : Value} (hi : ops[i]? = some oi) (hsel : ∀ (j : Nat) (o : Oper) cs b, ops[j]? = some o → o.op ≠ .select cs b)
    (hQ : ∀ c a w, Q (.panic c) (a.put oi.dst v) w → Q (.panic c) a w) {g : Nat} (hw : reachB md ops i g n = true) (hin : i ≠ n) :
    ∀ (f : Nat) (d : Array Bool) (a : Act) (w : World), Shut' md ops d →
      (∀ j oj, ops[j]? = some oj → j ≠ i → d.getD j true = false → (∀ e ∈ oj.after, Region.binds md e = true → e.on ≠ i) → oi.apart ops oj = true) →
      i ∈ Region.ready md ops d → YieldsIf P ops S oi v a → d.getD n true = false → S w →
      wpAnyT P md ops Q S n f (d.setIfInBounds i true) (a.put oi.dst v) w → wpAnyT P md ops Q S n (f + 1) d a w := by
  intro f
  induction f with
  | zero =>
    intro d a w _ _ hr hy hd hS H
    refine ⟨fun h => (by rw [h] at hr; cases hr), fun j hj => ?_⟩
    by_cases hji : j = i
    · subst hji; exact hy.wpOp hi hS ⟨fun _ => hS, H⟩
    · have := ready_mono hj hji
      rw [H.1] at this
      cases this
  | succ f ih =>
    intro d a w hsh hfree hr hy hd hS H
    refine ⟨fun h => (by rw [h] at hr; cases hr), fun j hj => ?_⟩
    by_cases hji : j = i
    · subst hji; exact hy.wpOp hi hS ⟨fun _ => hS, H⟩
    · have h1 := H.2 j (ready_mono hj hji)
      obtain ⟨hjun, oj, hoj, hall⟩ := mem_ready.1 hj
      have hun := (mem_ready.1 hr).1
      have hnot : ∀ e ∈ oj.after, Region.binds md e = true → e.on ≠ i := fun e he hb heq => by
        have h1 := hall e he hb
        rw [heq, getD_both hun] at h1
        cases h1
      have hjn : j ≠ n := by
        rintro rfl
        have := reach_listed hsh g _ hw (fun on hon => by rw [hoj] at hon; obtain rfl := Option.some.inj hon; exact hall)
        rw [getD_both hun] at this
        cases this
      have hdj : (d.setIfInBounds j true).getD n true = false := by rw [getD_set_ne true hjn]; exact hd
      have h2 := wpOp_putIf hoj (hfree j oj hoj hji hjun hnot) (fun cs b => hsel i oi cs b hi) (fun cs b => hsel j oj cs b hoj) hQ hy h1
      have hfree' : ∀ k ok, ops[k]? = some ok → k ≠ i → (d.setIfInBounds j true).getD k true = false →
          (∀ e ∈ ok.after, Region.binds md e = true → e.on ≠ i) → oi.apart ops ok = true := fun k ok hk hki hku hno => by
        refine hfree k ok hk hki ?_ hno
        by_cases hjk : j = k
        · subst hjk; exact hjun
        · rw [getD_set_ne true hjk] at hku; exact hku
      refine wpOp_mono (fun a' w' h3 => ?_) h2
      have hS' : S w' := h3.2.1 (by rw [getD_set_ne true hjn, getD_set_ne true hin]; exact hd)
      refine ⟨fun _ => hS', ih (d.setIfInBounds j true) a' w' (hsh.set hj) hfree' (ready_mono hr (Ne.symm hji)) h3.1 hdj hS' ?_⟩
      rw [Array.setIfInBounds_comm _ _ hji]
      exact h3.2.2
theorem get_of_drop {i : Nat} {oi : Oper} {r : List Oper} (h : ops.toList.drop i = oi :: r) : ops[i]? = some oi := by
  have := congrArg (fun l => l[0]?) h
  simpa using this
/-- A read is taken first. -/
theorem wpAnyT_take (i : Nat) {oi : Oper} {r : List Oper} {v : Value} {f : Nat} {d : Array Bool} {a : Act} {w : World} (hi : ops.toList.drop i = oi :: r) (hc : (Region.noSelect ops && Region.free md ops d i && (Region.ready md ops d).contains i && reachB md ops i 4 n && decide (i ≠ n) && !d.getD n true && shutB md ops d) = true)
    (hQ : ∀ c a w, Q (.panic c) (a.put oi.dst v) w → Q (.panic c) a w) (hy : YieldsIf P ops S oi v a) (hS : S w)
    (h : wpAnyT P md ops Q S n f (d.setIfInBounds i true) (a.put oi.dst v) w) : wpAnyT P md ops Q S n (f + 1) d a w := by
  simp only [Bool.and_eq_true, decide_eq_true_eq, Bool.not_eq_true'] at hc
  obtain ⟨⟨⟨⟨⟨⟨h1, h2⟩, h3⟩, h4⟩, h5⟩, h6⟩, h7⟩ := hc
  have hi := get_of_drop hi
  exact wpAnyT_first hi (Region.noSelect_spec h1) hQ h4 h5 f d a w (shutB_spec h7) (Region.free_spec hi h2) (by simpa using h3) hy h6 hS h
/-- One alone may come up: a call. -/
theorem wpAnyT_call (i : Nat) {oi : Oper} {r : List Oper} {f : Nat} {d : Array Bool} {a : Act} {w : World} (hi : ops.toList.drop i = oi :: r) (hr : Region.ready md ops d = [i])
    (h : ∀ K' : Act → World → Prop, Hid (∀ a w, S w → wpAnyT P md ops Q S n f (d.setIfInBounds i true) a w → K' a w) → if Region.wanted oi (yielded ops a.tmps) = true then Oper.wp P oi a w K' Q else K' (a.put oi.dst undef) w) : wpAnyT P md ops Q S n (f + 1) d a w := by
  have hi := get_of_drop hi
  refine ⟨fun e => (by rw [hr] at e; cases e), fun j hj => ?_⟩
  rw [hr] at hj
  obtain rfl : j = i := by simpa using hj
  exact wpOp_step hi (fun K' hK => h K' (hid (fun a w hS hW => hK a w ⟨fun _ => hS, hW⟩)))
theorem getD_set_self (d : Array Bool) (k : Nat) : (d.setIfInBounds k true).getD k true = true := by
  by_cases h : k < d.size <;> simp [Array.getD, h]
theorem wpAnyT_seq : ∀ (l : List Oper) (k : Nat) (d : Array Bool) (a : Act) (w : World), (∀ j, l[j]? = ops[k + j]?) → (k = n ∨ d.getD n true = true) →
    Region.seqB md ops l.length k d = true → wpList P ops Q l a w → wpAnyT P md ops Q S n l.length d a w
  | [], _, _, _, _, _, _, hB, h => ⟨by simpa [Region.seqB] using hB, h⟩
  | o :: l, k, d, a, w, hl, hn, hB, h => by
    have h0 : ops[k]? = some o := by simpa using (hl 0).symm
    simp only [List.length_cons, Region.seqB, Bool.and_eq_true, decide_eq_true_eq] at hB
    have hs : (d.setIfInBounds k true).getD n true = true := by
      rcases hn with rfl | hn
      · exact getD_set_self d k
      · by_cases e : k = n
        · subst e; exact getD_set_self d k
        · rw [getD_set_ne true e]; exact hn
    refine ⟨fun h1 => (by rw [hB.1] at h1; cases h1), fun i hi => ?_⟩
    rw [hB.1] at hi
    have hik : i = k := by simpa using hi
    subst hik
    have hw : wpOp P ops Q i (wpList P ops Q l) a w := by unfold wpOp; simp only [h0]; exact h
    refine wpOp_mono (fun a' w' h' => ⟨fun e => ?_, wpAnyT_seq l (i + 1) _ a' w' (fun j => by have := hl (j + 1); simpa [Nat.add_assoc, Nat.add_comm 1 j] using this) (.inr hs) hB.2 h'⟩) hw
    rw [hs] at e
    cases e
end
theorem wpAnyT_tail {P : Program} {l : List Oper} {Q : Exit → Act → World → Prop} {S : World → Prop} {n : Nat} {d : Array Bool} {a : Act} {w : World} (t : List Oper) (ht : t = l.drop n) (hB : Region.seqB .any l.toArray t.length n d = true) (h : wpList P l.toArray Q t a w) :
    wpAnyT P .any l.toArray Q S n t.length d a w := by
  subst ht
  exact wpAnyT_seq _ n d a w (fun j => by simp [List.getElem?_drop]) (.inl rfl) hB h
/-- The beginning. -/
theorem wp_region_tail {P : Program} {ops : Array Oper} {Q : Exit → Act → World → Prop} {id : Nat} {a : Act} {w : World} (S : World → Prop) (n m : Nat) (hm : P.follows .mixedOrders = true) (hz : ops.size = m) (hS : S w.drew)
    (h : S w.drew → wpAnyT P .any ops Q S n m (Array.replicate m false) a w.drew) : (Code.region id ops true).wp P Q a w := by
  subst hz
  exact wp_region_any hm (wpAny_of_T _ _ _ _ (h hS))
theorem wpAnyH_call {P : Program} {ops : Array Oper} {Q : Exit → Act → World → Prop} {S : World → Prop} (i : Nat) {oi : Oper} {r : List Oper} {f : Nat} {d : Array Bool} {a : Act} {w : World} (hi : ops.toList.drop i = oi :: r) (hr : Region.ready .any ops d = [i])
    (h : ∀ K' : Act → World → Prop, Hid (∀ a w, S w → wpAnyH P .any ops Q S f (d.setIfInBounds i true) a w → K' a w) → if Region.wanted oi (yielded ops a.tmps) = true then Oper.wp P oi a w K' Q else K' (a.put oi.dst undef) w) : wpAnyH P .any ops Q S (f + 1) d a w := by
  have hi := get_of_drop hi
  refine wpAnyH_all hr (by simp) (fun j hj => ?_)
  obtain rfl : j = i := by simpa using hj
  exact wpOp_step hi (fun K' hK => h K' (hid (fun a w hS hW => hK a w ⟨hS, hW⟩)))
theorem wp_region_heldH {P : Program} {ops : Array Oper} {Q : Exit → Act → World → Prop} {id : Nat} {a : Act} {w : World} (S : World → Prop) (m : Nat) (hm : P.follows .mixedOrders = true) (hz : ops.size = m) (hS : S w.drew)
    (h : S w.drew → wpAnyH P .any ops Q S m (Array.replicate m false) a w.drew) : (Code.region id ops true).wp P Q a w := by
  subst hz
  exact wp_region_held_drew hm hS h
/-- A struct is read from its block, whenever. -/
theorem yields_load {P : Program} {ops : Array Oper} {S : World → Prop} {o : Oper} {a : Act} (t : TypeId) (x : Operand) (hw : Region.wanted o (yielded ops a.tmps) = true) (ho : o.op = .load t x) (p : Addr) (cs : List Value)
    (hx : a.eval x = .pointer (some p)) (hl : ∀ w, S w → (Instr.loadAt t (.pointer (some p))).run P w = .ok (.agg cs.toArray) w) : YieldsIf P ops S o (.agg cs.toArray) a := by
  refine .inl ⟨hw, fun w hS => ?_⟩
  have hl' := hl w hS
  unfold execOp
  simp only [ho, hx]
  simp [hl', Result.andThen]
theorem wpAnyH_read {P : Program} {ops : Array Oper} {Q : Exit → Act → World → Prop} {S : World → Prop} (i : Nat) {oi : Oper} {r : List Oper} {v : Value} {f : Nat} {d : Array Bool} {a : Act} {w : World} (hi : ops.toList.drop i = oi :: r) (hs : Region.noSelect ops = true) (hf : Region.free .any ops d i = true) (hr : (Region.ready .any ops d).contains i = true)
    (hQ : ∀ c a w, Q (.panic c) (a.put oi.dst v) w → Q (.panic c) a w) (hS : S w) (hy : YieldsIf P ops S oi v a) (h : wpAnyH P .any ops Q S f (d.setIfInBounds i true) (a.put oi.dst v) w) : wpAnyH P .any ops Q S (f + 1) d a w :=
  wpAnyH_take (get_of_drop hi) hs hf hr hQ hy hS h
end Go.Proofs.Ytfmfknjjhemnoaa

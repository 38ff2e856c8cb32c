/- A region that draws its order, in which some reads may come behind the first store: what they read holds all along (S2); what the others read holds till the n-th operation (S1). -/
import Derived.Test.YtjjjfmnhdnajkaaGreatDoorQheld
namespace Go.Proofs.YtjjjfmnhdnajkaaGreatDoor
set_option linter.unusedVariables false
set_option linter.unusedSimpArgs false
open Go.RowKit

section
variable {P : Program} {ops : Array Oper} {Q : Exit → Act → World → Prop} {md : Region.Mode} {S1 S2 : World → Prop} {n m : Nat}
def wpAnyU (P : Program) (md : Region.Mode) (ops : Array Oper) (Q : Exit → Act → World → Prop) (S1 S2 : World → Prop) (n m : Nat) : Nat → Array Bool → Act → World → Prop
  | 0, d, a, w => Region.ready md ops d = [] ∧ Q .normal a w
  | f + 1, d, a, w => (Region.ready md ops d = [] → Q .normal a w) ∧
    ∀ i ∈ Region.ready md ops d, wpOp P ops Q i (fun a' w' => ((d.setIfInBounds i true).getD n true = false → S1 w') ∧ ((d.setIfInBounds i true).getD m true = false → S2 w') ∧ wpAnyU P md ops Q S1 S2 n m f (d.setIfInBounds i true) a' w') a w
theorem wpAny_of_U : ∀ (f : Nat) (d : Array Bool) (a : Act) (w : World), wpAnyU P md ops Q S1 S2 n m f d a w → wpAny P md ops Q f d a w
  | 0, _, _, _, h => h
  | f + 1, _, _, _, h => ⟨h.1, fun i hi => wpOp_mono (fun a' w' h' => wpAny_of_U f _ a' w' h'.2.2) (h.2 i hi)⟩
/-- A read for which n waits. -/
theorem wpAnyU_first {i : Nat} {oi : Oper} {v : Value} (hi : ops[i]? = some oi) (hsel : ∀ (j : Nat) (o : Oper) cs b, ops[j]? = some o → o.op ≠ .select cs b)
    (hQ : ∀ c a w, Q (.panic c) (a.put oi.dst v) w → Q (.panic c) a w) {g : Nat} (hw : reachB md ops i g n = true) (hin : i ≠ n) (him : i ≠ m) :
    ∀ (f : Nat) (d : Array Bool) (a : Act) (w : World), Shut' md ops d →
      (∀ j oj, ops[j]? = some oj → j ≠ i → d.getD j true = false → (∀ e ∈ oj.after, Region.binds md e = true → e.on ≠ i) → oi.apart ops oj = true) →
      i ∈ Region.ready md ops d → YieldsIf P ops S1 oi v a → d.getD n true = false → S1 w → (d.getD m true = false → S2 w) →
      wpAnyU P md ops Q S1 S2 n m f (d.setIfInBounds i true) (a.put oi.dst v) w → wpAnyU P md ops Q S1 S2 n m (f + 1) d a w := by
  intro f
  induction f with
  | zero =>
    intro d a w _ _ hr hy hd hS hS2 H
    refine ⟨fun h => (by rw [h] at hr; cases hr), fun j hj => ?_⟩
    by_cases hji : j = i
    · subst hji; exact hy.wpOp hi hS ⟨fun _ => hS, fun hd => hS2 (by rw [getD_set_ne true him] at hd; exact hd), H⟩
    · have := ready_mono hj hji
      rw [H.1] at this
      cases this
  | succ f ih =>
    intro d a w hsh hfree hr hy hd hS hS2 H
    refine ⟨fun h => (by rw [h] at hr; cases hr), fun j hj => ?_⟩
    by_cases hji : j = i
    · subst hji; exact hy.wpOp hi hS ⟨fun _ => hS, fun hd => hS2 (by rw [getD_set_ne true him] at hd; exact hd), H⟩
    · have h1 := H.2 j (ready_mono hj hji)
      obtain ⟨hjun, oj, hoj, hall⟩ := mem_ready.1 hj
      have hun := (mem_ready.1 hr).1
      have hnot : ∀ e ∈ oj.after, Region.binds md e = true → e.on ≠ i := fun e he hb heq => by
        have h1 := hall e he hb
        rw [heq, getD_both hun] at h1
        cases h1
      have hjn : j ≠ n := by
        rintro rfl
        have := reach_listed hsh g _ hw (fun on hon => by rw [hoj] at hon; obtain rfl := Option.some.inj hon; exact hall)
        rw [getD_both hun] at this
        cases this
      have hdj : (d.setIfInBounds j true).getD n true = false := by rw [getD_set_ne true hjn]; exact hd
      have h2 := wpOp_putIf hoj (hfree j oj hoj hji hjun hnot) (fun cs b => hsel i oi cs b hi) (fun cs b => hsel j oj cs b hoj) hQ hy h1
      have hfree' : ∀ k ok, ops[k]? = some ok → k ≠ i → (d.setIfInBounds j true).getD k true = false →
          (∀ e ∈ ok.after, Region.binds md e = true → e.on ≠ i) → oi.apart ops ok = true := fun k ok hk hki hku hno => by
        refine hfree k ok hk hki ?_ hno
        by_cases hjk : j = k
        · subst hjk; exact hjun
        · rw [getD_set_ne true hjk] at hku; exact hku
      refine wpOp_mono (fun a' w' h3 => ?_) h2
      have hS' : S1 w' := h3.2.1 (by rw [getD_set_ne true hjn, getD_set_ne true hin]; exact hd)
      have hS2' : (d.setIfInBounds j true).getD m true = false → S2 w' := fun hd => h3.2.2.1 (by
        rw [Array.setIfInBounds_comm _ _ (Ne.symm hji), getD_set_ne true him]; exact hd)
      refine ⟨fun _ => hS', hS2', ih (d.setIfInBounds j true) a' w' (hsh.set hj) hfree' (ready_mono hr (Ne.symm hji)) h3.1 hdj hS' hS2' ?_⟩
      rw [Array.setIfInBounds_comm _ _ hji]
      exact h3.2.2.2
/-- A read for which m waits. -/
theorem wpAnyU_late' {i : Nat} {oi : Oper} {v : Value} (hi : ops[i]? = some oi) (hsel : ∀ (j : Nat) (o : Oper) cs b, ops[j]? = some o → o.op ≠ .select cs b)
    (hQ : ∀ c a w, Q (.panic c) (a.put oi.dst v) w → Q (.panic c) a w) {g : Nat} (hw : reachB md ops i g m = true) (hin : i ≠ n) (him : i ≠ m) :
    ∀ (f : Nat) (d : Array Bool) (a : Act) (w : World), Shut' md ops d →
      (∀ j oj, ops[j]? = some oj → j ≠ i → d.getD j true = false → (∀ e ∈ oj.after, Region.binds md e = true → e.on ≠ i) → oi.apart ops oj = true) →
      i ∈ Region.ready md ops d → YieldsIf P ops S2 oi v a → d.getD m true = false → S2 w → (d.getD n true = false → S1 w) →
      wpAnyU P md ops Q S1 S2 n m f (d.setIfInBounds i true) (a.put oi.dst v) w → wpAnyU P md ops Q S1 S2 n m (f + 1) d a w := by
  intro f
  induction f with
  | zero =>
    intro d a w _ _ hr hy hd hS2 hS H
    refine ⟨fun h => (by rw [h] at hr; cases hr), fun j hj => ?_⟩
    by_cases hji : j = i
    · subst hji; exact hy.wpOp hi hS2 ⟨fun hd => hS (by rw [getD_set_ne true hin] at hd; exact hd), fun _ => hS2, H⟩
    · have := ready_mono hj hji
      rw [H.1] at this
      cases this
  | succ f ih =>
    intro d a w hsh hfree hr hy hd hS2 hS H
    refine ⟨fun h => (by rw [h] at hr; cases hr), fun j hj => ?_⟩
    by_cases hji : j = i
    · subst hji; exact hy.wpOp hi hS2 ⟨fun hd => hS (by rw [getD_set_ne true hin] at hd; exact hd), fun _ => hS2, H⟩
    · have h1 := H.2 j (ready_mono hj hji)
      obtain ⟨hjun, oj, hoj, hall⟩ := mem_ready.1 hj
      have hun := (mem_ready.1 hr).1
      have hnot : ∀ e ∈ oj.after, Region.binds md e = true → e.on ≠ i := fun e he hb heq => by
        have h1 := hall e he hb
        rw [heq, getD_both hun] at h1
        cases h1
      have hjn : j ≠ m := by
        rintro rfl
        have := reach_listed hsh g _ hw (fun on hon => by rw [hoj] at hon; obtain rfl := Option.some.inj hon; exact hall)
        rw [getD_both hun] at this
        cases this
      have hdj : (d.setIfInBounds j true).getD m true = false := by rw [getD_set_ne true hjn]; exact hd
      have h2 := wpOp_putIf hoj (hfree j oj hoj hji hjun hnot) (fun cs b => hsel i oi cs b hi) (fun cs b => hsel j oj cs b hoj) hQ hy h1
      have hfree' : ∀ k ok, ops[k]? = some ok → k ≠ i → (d.setIfInBounds j true).getD k true = false →
          (∀ e ∈ ok.after, Region.binds md e = true → e.on ≠ i) → oi.apart ops ok = true := fun k ok hk hki hku hno => by
        refine hfree k ok hk hki ?_ hno
        by_cases hjk : j = k
        · subst hjk; exact hjun
        · rw [getD_set_ne true hjk] at hku; exact hku
      refine wpOp_mono (fun a' w' h3 => ?_) h2
      have hS2' : S2 w' := h3.2.2.1 (by rw [getD_set_ne true hjn, getD_set_ne true him]; exact hd)
      have hS' : (d.setIfInBounds j true).getD n true = false → S1 w' := fun hd => h3.2.1 (by
        rw [Array.setIfInBounds_comm _ _ (Ne.symm hji), getD_set_ne true hin]; exact hd)
      refine ⟨hS', fun _ => hS2', ih (d.setIfInBounds j true) a' w' (hsh.set hj) hfree' (ready_mono hr (Ne.symm hji)) h3.1 hdj hS2' hS' ?_⟩
      rw [Array.setIfInBounds_comm _ _ hji]
      exact h3.2.2.2
theorem wpAnyU_take (i : Nat) {oi : Oper} {r : List Oper} {v : Value} {f : Nat} {d : Array Bool} {a : Act} {w : World} (hi : ops.toList.drop i = oi :: r) (hc : (Region.noSelect ops && Region.free md ops d i && (Region.ready md ops d).contains i && reachB md ops i 4 n && decide (i ≠ n) && decide (i ≠ m) && !d.getD n true && shutB md ops d) = true)
    (hQ : ∀ c a w, Q (.panic c) (a.put oi.dst v) w → Q (.panic c) a w) (hy : YieldsIf P ops S1 oi v a) (hS : S1 w) (hS2 : S2 w)
    (h : wpAnyU P md ops Q S1 S2 n m f (d.setIfInBounds i true) (a.put oi.dst v) w) : wpAnyU P md ops Q S1 S2 n m (f + 1) d a w := by
  simp only [Bool.and_eq_true, decide_eq_true_eq, Bool.not_eq_true'] at hc
  obtain ⟨⟨⟨⟨⟨⟨⟨h1, h2⟩, h3⟩, h4⟩, h5⟩, h5'⟩, h6⟩, h7⟩ := hc
  have hi := get_of_drop hi
  exact wpAnyU_first hi (Region.noSelect_spec h1) hQ h4 h5 h5' f d a w (shutB_spec h7) (Region.free_spec hi h2) (by simpa using h3) hy h6 hS (fun _ => hS2) h
theorem wpAnyU_late (i : Nat) {oi : Oper} {r : List Oper} {v : Value} {f : Nat} {d : Array Bool} {a : Act} {w : World} (hi : ops.toList.drop i = oi :: r) (hc : (Region.noSelect ops && Region.free md ops d i && (Region.ready md ops d).contains i && reachB md ops i 4 m && decide (i ≠ n) && decide (i ≠ m) && !d.getD m true && shutB md ops d) = true)
    (hQ : ∀ c a w, Q (.panic c) (a.put oi.dst v) w → Q (.panic c) a w) (hy : YieldsIf P ops S2 oi v a) (hS : S1 w) (hS2 : S2 w)
    (h : wpAnyU P md ops Q S1 S2 n m f (d.setIfInBounds i true) (a.put oi.dst v) w) : wpAnyU P md ops Q S1 S2 n m (f + 1) d a w := by
  simp only [Bool.and_eq_true, decide_eq_true_eq, Bool.not_eq_true'] at hc
  obtain ⟨⟨⟨⟨⟨⟨⟨h1, h2⟩, h3⟩, h4⟩, h5⟩, h5'⟩, h6⟩, h7⟩ := hc
  have hi := get_of_drop hi
  exact wpAnyU_late' hi (Region.noSelect_spec h1) hQ h4 h5 h5' f d a w (shutB_spec h7) (Region.free_spec hi h2) (by simpa using h3) hy h6 hS2 (fun _ => hS) h
/-- One alone may come up. -/
theorem wpAnyU_one (i : Nat) {oi : Oper} {r : List Oper} {f : Nat} {d : Array Bool} {a : Act} {w : World} (hi : ops.toList.drop i = oi :: r) (hr : Region.ready md ops d = [i])
    (h : ∀ K' : Act → World → Prop, Hid (∀ a w, ((d.setIfInBounds i true).getD n true = false → S1 w) → ((d.setIfInBounds i true).getD m true = false → S2 w) → wpAnyU P md ops Q S1 S2 n m f (d.setIfInBounds i true) a w → K' a w) → if Region.wanted oi (yielded ops a.tmps) = true then Oper.wp P oi a w K' Q else K' (a.put oi.dst undef) w) : wpAnyU P md ops Q S1 S2 n m (f + 1) d a w := by
  have hi := get_of_drop hi
  refine ⟨fun e => (by rw [hr] at e; cases e), fun j hj => ?_⟩
  rw [hr] at hj
  obtain rfl : j = i := by simpa using hj
  exact wpOp_step hi (fun K' hK => h K' (hid (fun a w hS hS2 hW => hK a w ⟨hS, hS2, hW⟩)))
theorem wpAnyU_done {d : Array Bool} {a : Act} {w : World} (hr : Region.ready md ops d = []) (h : Q .normal a w) : ∀ f, wpAnyU P md ops Q S1 S2 n m f d a w
  | 0 => ⟨hr, h⟩
  | f + 1 => ⟨fun _ => h, fun i hi => by rw [hr] at hi; cases hi⟩
end
theorem wp_region_U {P : Program} {ops : Array Oper} {Q : Exit → Act → World → Prop} {id : Nat} {a : Act} {w : World} (S1 S2 : World → Prop) (n m k : Nat) (hm : P.follows .mixedOrders = true) (hz : ops.size = k) (h1 : S1 w.drew) (h2 : S2 w.drew)
    (h : S1 w.drew → S2 w.drew → wpAnyU P .any ops Q S1 S2 n m k (Array.replicate k false) a w.drew) : (Code.region id ops true).wp P Q a w := by
  subst hz
  exact wp_region_any hm (wpAny_of_U _ _ _ _ (h h1 h2))
end Go.Proofs.YtjjjfmnhdnajkaaGreatDoor

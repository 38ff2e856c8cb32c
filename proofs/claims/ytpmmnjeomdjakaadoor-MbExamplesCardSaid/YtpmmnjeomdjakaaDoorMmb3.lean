/- A region that draws its order: first operations that turn nothing that was there (callees may make memory), then, in the order of the text, what does. One walk serves. -/
/- A cheaper check of a region's order: head in any order, tail as in the text. -/
import Derived.StillTail
import Derived.Test.YtpmmnjeomdjakaaDoorMmb2
section
set_option maxRecDepth 20000
namespace Go.Proofs.YtpmmnjeomdjakaaDoor
set_option linter.unusedVariables false
set_option linter.unusedSimpArgs false
open Go.RowKit

section
variable {P : Program} {ops : Array Oper} {md : Region.Mode} {C : World → Prop} {n : Nat}
/-- Whatever order the operations below n come up in, L is reached; each is quiet in the class. -/
def headQ (P : Program) (md : Region.Mode) (ops : Array Oper) (C : World → Prop) (n : Nat) (L : Array Bool → Act → Prop) : Nat → Array Bool → Act → Prop
  | 0, d, a => L d a
  | f + 1, d, a => Region.ready md ops d ≠ [] ∧ ∀ i, i ∈ Region.ready md ops d → i < n ∧ qOp P ops C i (headQ P md ops C n L f (d.setIfInBounds i true)) a
theorem headQ_any {L : Array Bool → Act → Prop} {Q' : Exit → Act → World → Prop} {g : Nat} (hL : ∀ d a w, C w → L d a → wpAny P md ops Q' g d a w) :
    ∀ (f : Nat) (d : Array Bool) (a : Act) (w : World), C w → headQ P md ops C n L f d a → wpAny P md ops Q' (f + g) d a w := by
  intro f
  induction f with
  | zero => intro d a w hw h; rw [Nat.zero_add]; exact hL d a w hw h
  | succ f ih =>
    intro d a w hw h
    rw [Nat.add_right_comm]
    exact ⟨fun e => absurd e h.1, fun i hi => wpOp_of_qOp hw (fun a' w' hw' h' => ih _ a' w' hw' h') (h.2 i hi).2⟩
/-- One that may come up now is taken first. -/
theorem headQ_take {L : Array Bool → Act → Prop} {i : Nat} {oi : Oper} {v : Value} (hi : ops[i]? = some oi) (hsel : ∀ (j : Nat) (o : Oper) cs b, ops[j]? = some o → o.op ≠ .select cs b)
    (hs : Region.sinkB md ops n = true) (hc : Region.chainB md ops n = true) (hn : n < ops.size) (hin : i < n) (hd : ∀ d a, L d a → ∀ j ∈ Region.ready md ops d, n ≤ j) :
    ∀ (f : Nat) (d : Array Bool) (a : Act), HeadInv md ops n d →
      (∀ j oj, ops[j]? = some oj → j ≠ i → d.getD j true = false → (∀ e ∈ oj.after, Region.binds md e = true → e.on ≠ i) → oi.apart ops oj = true) →
      i ∈ Region.ready md ops d → YieldsIn P ops C oi v a → headQ P md ops C n L f (d.setIfInBounds i true) (a.put oi.dst v) → headQ P md ops C n L (f + 1) d a := by
  intro f
  induction f with
  | zero =>
    intro d a I _ hr hy H
    refine ⟨List.ne_nil_of_mem hr, fun j hj => ?_⟩
    have hjn : j < n := Nat.lt_of_not_le fun h => tail_waits hs hc hn I _ i rfl hin (mem_ready.1 hr).1 j h hj
    refine ⟨hjn, ?_⟩
    by_cases e : j = i
    · subst e; exact hy.qOp hi H
    · exact absurd (hd _ _ H j (ready_mono hj e)) (by omega)
  | succ f ih =>
    intro d a I hfr hr hy H
    have hu := (mem_ready.1 hr).1
    refine ⟨List.ne_nil_of_mem hr, fun j hj => ?_⟩
    have hjn : j < n := Nat.lt_of_not_le fun h => tail_waits hs hc hn I _ i rfl hin hu j h hj
    refine ⟨hjn, ?_⟩
    by_cases e : j = i
    · subst e; exact hy.qOp hi H
    · obtain ⟨hju, oj, hoj, hall⟩ := mem_ready.1 hj
      have hno : ∀ x ∈ oj.after, Region.binds md x = true → x.on ≠ i := fun x hx hb hxi => by
        have := hall x hx hb
        rw [hxi, getD_both hu] at this
        cases this
      refine qOp_mono (fun a' h => ?_) (qOp_put hoj (hfr j oj hoj e hju hno) (fun cs b => hsel i oi cs b hi) (fun cs b => hsel j oj cs b hoj) hy (H.2 j (ready_mono hj e)).2)
      refine ih _ a' (I.set hj hjn) (fun k ok hk hki hku hkn => hfr k ok hk hki ?_ hkn) (ready_mono hr (Ne.symm e)) h.1 ?_
      · by_cases hjk : j = k
        · subst hjk; exact hju
        · rwa [getD_set_ne true hjk] at hku
      · rw [Array.setIfInBounds_comm _ _ e]; exact h.2
theorem headQ_lex {g : Nat} {K : Act → Prop} (hsel : Region.noSelect ops = true) (hs : Region.sinkB md ops n = true) (hc : Region.chainB md ops n = true) (hn : n < ops.size) :
    ∀ (l : List Oper) (k : Nat) (d : Array Bool) (a : Act), (∀ j, j < l.length → l[j]? = ops[k + j]?) → k + l.length = n → HeadInv md ops n d → Region.lexHead md ops g l.length k d = true → wpQuiet P ops C K l a →
      headQ P md ops C n (fun d' a' => Region.seqB md ops g n d' = true ∧ K a') l.length d a := by
  intro l
  induction l with
  | nil =>
    intro k d a _ hk _ hB h
    obtain rfl : k = n := by simpa using hk
    exact ⟨by simpa [Region.lexHead] using hB, h⟩
  | cons o l ih =>
    intro k d a hl hk I hB h
    have h0 : ops[k]? = some o := by simpa using (hl 0 (by simp)).symm
    have hk' : k + 1 + l.length = n := by rw [← hk, List.length_cons]; omega
    simp only [List.length_cons, Region.lexHead, Bool.and_eq_true] at hB
    have hr : k ∈ Region.ready md ops d := by simpa using hB.1.1
    obtain ⟨v, hy, hK⟩ := yieldsIn_of_qOp (K := wpQuiet P ops C K l) h0 (by unfold qOp; simp only [h0]; exact h)
    exact headQ_take h0 (Region.noSelect_spec hsel) hs hc hn (by omega) (fun d' a' hL => seqB_ready hL.1) l.length d a I (Region.free_spec h0 hB.1.2) hr hy
      (ih (k + 1) _ _ (fun j hj => by have := hl (j + 1) (by simpa using hj); simpa [Nat.add_assoc, Nat.add_comm 1 j] using this) hk' (I.set hr (by omega)) hB.2 hK)
theorem wp_region_quiet_tail {id : Nat} {Q : Exit → Act → World → Prop} {a : Act} {w : World} {l : List Oper} (n : Nat) (hm : P.follows .mixedOrders = true) (hB : Region.lexTailB .any l.toArray n = true) (hC : C { w with drawn := w.drawn + 1 })
    (h : wpQuiet P l.toArray C (fun a' => ∀ w', C w' → wpList P l.toArray Q (l.drop n) a' w') (l.take n) a) : (Code.region id l.toArray true).wp P Q a w := by
  simp only [Region.lexTailB, Bool.and_eq_true, decide_eq_true_eq] at hB
  obtain ⟨⟨⟨⟨h1, h2⟩, h3⟩, h4⟩, h5⟩ := hB
  have hln : n < l.length := by simpa using h2
  have ht : (l.take n).length = n := by rw [List.length_take]; omega
  have I : HeadInv .any l.toArray n (Array.replicate l.toArray.size false) := ⟨by simp, fun j oj _ e => (by rw [getD_replicate_false] at e; cases e), fun t _ hq => getD_in (by simpa using hq) (getD_replicate_false _ _)⟩
  have H := headQ_lex (md := .any) (g := l.toArray.size - n) h1 h3 h4 h2 (l.take n) 0 _ a (fun j hj => by rw [ht] at hj; simp [hj]) (by rw [ht, Nat.zero_add]) I (by rw [ht]; exact h5) h
  have R := headQ_any (Q' := Q) (g := l.toArray.size - n) (fun d a' w' hw' hL => by
    have := wpAny_of_seq (md := .any) (Q' := Q) (l.drop n) n d a' w' (fun j => by simp [List.getElem?_drop]) (by rw [List.length_drop]; simpa using hL.1) (hL.2 w' hw')
    rw [List.length_drop] at this
    simpa using this) _ _ _ _ hC H
  rw [ht, show n + (l.toArray.size - n) = l.toArray.size by omega] at R
  exact wp_region_any hm R
end
/-- The class: new blocks alone. -/
theorem wp_region_only_tail {P : Program} {id : Nat} {Q : Exit → Act → World → Prop} {a : Act} {w : World} {l : List Oper} (n : Nat) (hm : P.follows .mixedOrders = true) (hB : Region.lexTailB .any l.toArray n = true)
    (h : wpQuiet P l.toArray (fun w' => ∃ x : OnlyOf w, w' = x.at) (fun a' => ∀ w', (∃ x : OnlyOf w, w' = x.at) → wpList P l.toArray Q (l.drop n) a' w') (l.take n) a) : (Code.region id l.toArray true).wp P Q a w :=
  wp_region_quiet_tail (C := fun w' => ∃ x : OnlyOf w, w' = x.at) n hm hB ⟨⟨_, (Only.refl [] w).drew⟩, rfl⟩ h
theorem Calls.only_eq {P : Program} {f : FuncId} {args : Array Value} {w : World} {x : OnlyOf w} {v : Value} (h : Calls P f args x.at fun e w' => e = .returned v ∧ w' = x.at) :
    Calls P f args x.at fun e w'' => e = .returned v ∧ ∃ y : OnlyOf w, w'' = y.at :=
  h.mono fun _ w' ⟨he, ho⟩ => ⟨he, x, ho⟩
end Go.Proofs.YtpmmnjeomdjakaaDoor

end
section
set_option maxRecDepth 20000
namespace Go.Proofs.YtpmmnjeomdjakaaDoor
set_option linter.unusedVariables false
set_option linter.unusedSimpArgs false
open Go.RowKit

/-- From k on each waits for earlier ones alone. -/
def lowB (md : Region.Mode) : Nat → List Oper → Bool
  | _, [] => true
  | k, o :: l => o.after.all (fun e => !Region.binds md e || decide (e.on < k)) && lowB md (k + 1) l
/-- Each of the first n: a later one waits for it or is apart from it. -/
def freeB (md : Region.Mode) (ops : Array Oper) : Nat → Nat → List Oper → Bool
  | 0, _, _ => true
  | _ + 1, _, [] => true
  | n + 1, k, o :: l => (l.all fun oj => oj.after.any (fun e => Region.binds md e && e.on == k) || o.apart ops oj) && freeB md ops n (k + 1) l
def lexTailC (md : Region.Mode) (l : List Oper) (n : Nat) : Bool :=
  Region.noSelect l.toArray && decide (n < l.toArray.size) && Region.sinkB md l.toArray n && Region.chainB md l.toArray n && lowB md 0 l && freeB md l.toArray n 0 l
section
variable {md : Region.Mode}
theorem lowB_spec : ∀ (l : List Oper) (k : Nat), lowB md k l = true → ∀ j o, l[j]? = some o → ∀ e ∈ o.after, Region.binds md e = true → e.on < k + j
  | [], _, _, _, _, h => by simp at h
  | o :: l, k, h, 0, o', h' => by
    simp only [List.getElem?_cons_zero, Option.some.injEq] at h'
    subst h'
    simp only [lowB, Bool.and_eq_true] at h
    intro e he hb
    have := Array.all_eq_true_iff_forall_mem.1 h.1 e he
    simpa [hb] using this
  | o :: l, k, h, j + 1, o', h' => by
    simp only [lowB, Bool.and_eq_true] at h
    intro e he hb
    have := lowB_spec l (k + 1) h.2 j o' (by simpa using h') e he hb
    omega
theorem freeB_spec {ops : Array Oper} : ∀ (n k : Nat) (l : List Oper), freeB md ops n k l = true → ∀ i j oi oj, i < n → i < j → l[i]? = some oi → l[j]? = some oj →
    (oj.after.any (fun e => Region.binds md e && e.on == k + i) || oi.apart ops oj) = true
  | 0, _, _, _, _, _, _, _, h, _, _, _ => absurd h (Nat.not_lt_zero _)
  | n + 1, _, [], _, _, _, _, _, _, _, h, _ => by simp at h
  | n + 1, k, o :: l, h, 0, j, oi, oj, _, hj, hi, hjo => by
    simp only [freeB, Bool.and_eq_true, List.all_eq_true] at h
    obtain ⟨j, rfl⟩ : ∃ t, j = t + 1 := ⟨j - 1, by omega⟩
    simp only [List.getElem?_cons_zero, Option.some.injEq] at hi
    subst hi
    exact h.1 oj (List.mem_of_getElem? (i := j) (by simpa using hjo))
  | n + 1, k, o :: l, h, i + 1, j, oi, oj, hin, hj, hi, hjo => by
    simp only [freeB, Bool.and_eq_true] at h
    obtain ⟨j, rfl⟩ : ∃ t, j = t + 1 := ⟨j - 1, by omega⟩
    have := freeB_spec n (k + 1) l h.2 i j oi oj (by omega) (by omega) (by simpa using hi) (by simpa using hjo)
    rwa [show k + 1 + i = k + (i + 1) by omega] at this
/-- The first k are listed. -/
def UpTo (d : Array Bool) (m k : Nat) : Prop := d.size = m ∧ ∀ i b, i < m → d.getD i b = decide (i < k)
theorem UpTo.zero (m : Nat) : UpTo (Array.replicate m false) m 0 := ⟨by simp, fun i b h => by simp [Array.getD, h]⟩
theorem UpTo.set {d : Array Bool} {m k : Nat} (h : UpTo d m k) (hk : k < m) : UpTo (d.setIfInBounds k true) m (k + 1) := by
  refine ⟨by simp [h.1], fun i b hi => ?_⟩
  by_cases e : i = k
  · subst e
    simp [Array.getD, h.1, hk]
  · rw [getD_set_ne b (Ne.symm e), h.2 i b hi]
    simp only [decide_eq_decide]
    omega
variable {l : List Oper} {n : Nat}
theorem UpTo.mem {d : Array Bool} {k : Nat} (h : UpTo d l.length k) (hl : lowB md 0 l = true) (hk : k < l.length) : k ∈ Region.ready md l.toArray d := by
  refine mem_ready.2 ⟨by rw [h.2 k true hk]; simp, l[k], by simp [hk], fun e he hb => ?_⟩
  have := lowB_spec l 0 hl k l[k] (by simp [hk]) e he hb
  rw [h.2 _ false (by omega)]
  simp
  omega
theorem UpTo.ready {d : Array Bool} {k i : Nat} (h : UpTo d l.length k) (hc : Region.chainB md l.toArray n = true) (hn : n ≤ k) (hi : i ∈ Region.ready md l.toArray d) : i = k ∧ k < l.length := by
  obtain ⟨h1, oi, ho, h2⟩ := mem_ready.1 hi
  have hil : i < l.length := by
    rcases Nat.lt_or_ge i l.length with h | h
    · exact h
    · simp [h] at ho
  rw [h.2 i true hil] at h1
  have hki : k ≤ i := by simpa using h1
  rcases Nat.lt_or_ge k i with hlt | hge
  · simp only [Region.chainB, List.all_eq_true, List.mem_range] at hc
    have hw := hc i (by simpa using hil)
    simp only [Bool.or_eq_true, decide_eq_true_eq] at hw
    rcases hw with hw | hw
    · omega
    · obtain ⟨oj, hj, e, he, hb, hon⟩ := Region.waitsFor_spec hw
      rw [ho] at hj
      obtain rfl := Option.some.inj hj
      have := h2 e he hb
      rw [hon, h.2 _ false (by omega)] at this
      have : i - 1 < k := by simpa using this
      omega
  · exact ⟨by omega, by omega⟩
theorem filter_range_one (p : Nat → Bool) (k : Nat) : ∀ m, (∀ i, i < m → (p i = true ↔ i = k)) → (List.range m).filter p = if k < m then [k] else []
  | 0, _ => by simp
  | m + 1, h => by
    rw [List.range_succ, List.filter_append, filter_range_one p k m (fun i hi => h i (by omega))]
    by_cases e : m = k
    · subst e
      have := (h m (by omega)).2 rfl
      simp [this]
    · have : p m = false := by
        cases hp : p m
        · rfl
        · exact absurd ((h m (by omega)).1 hp) e
      simp only [List.filter_cons, this, Bool.false_eq_true, if_false, List.filter_nil, List.append_nil]
      split <;> split <;> first | rfl | omega
theorem UpTo.seq (hl : lowB md 0 l = true) (hc : Region.chainB md l.toArray n = true) : ∀ (g k : Nat) (d : Array Bool), UpTo d l.length k → n ≤ k → k + g = l.length → Region.seqB md l.toArray g k d = true
  | 0, k, d, h, hn, hg => by
    simp only [Region.seqB, List.isEmpty_iff]
    refine List.eq_nil_iff_forall_not_mem.2 fun i hi => ?_
    have := h.ready hc hn hi
    omega
  | g + 1, k, d, h, hn, hg => by
    simp only [Region.seqB, Bool.and_eq_true, decide_eq_true_eq]
    refine ⟨?_, UpTo.seq hl hc g (k + 1) _ (h.set (by omega)) (by omega) (by omega)⟩
    have hm := h.mem hl (show k < l.length by omega)
    unfold Region.ready at hm ⊢
    rw [filter_range_one _ k _ (fun i hi => ?_), if_pos (by simp; omega)]
    constructor
    · intro hp
      refine (h.ready (i := i) hc hn ?_).1
      unfold Region.ready
      exact List.mem_filter.2 ⟨List.mem_range.2 hi, hp⟩
    · rintro rfl
      exact (List.mem_filter.1 hm).2
theorem UpTo.head (hl : lowB md 0 l = true) (hc : Region.chainB md l.toArray n = true) (hf : freeB md l.toArray n 0 l = true) : ∀ (f k : Nat) (d : Array Bool), UpTo d l.length k → k + f = n → n < l.length → Region.lexHead md l.toArray (l.length - n) f k d = true
  | 0, k, d, h, hk, hn => by
    obtain rfl : k = n := by omega
    exact UpTo.seq hl hc _ k d h (Nat.le_refl _) (by omega)
  | f + 1, k, d, h, hk, hn => by
    simp only [Region.lexHead, Bool.and_eq_true, List.contains_iff_mem]
    refine ⟨⟨h.mem hl (by omega), ?_⟩, UpTo.head hl hc hf f (k + 1) _ (h.set (by omega)) (by omega) hn⟩
    have hk' : k < l.length := by omega
    have h1 : l.toArray[k]? = some l[k] := by simp [hk']
    unfold Region.free
    simp only [h1, List.all_eq_true, List.mem_range]
    intro j hj
    have hj' : j < l.length := by simpa using hj
    have h2 : l.toArray[j]? = some l[j] := by simp [hj']
    simp only [h2, Bool.or_eq_true, beq_iff_eq]
    rw [h.2 j true hj']
    by_cases e : j = k
    · exact .inl (.inl e)
    · rcases Nat.lt_or_ge j k with hlt | hge
      · exact .inl (.inr (by simpa using hlt))
      · have := freeB_spec n 0 l hf k j l[k] l[j] (by omega) (by omega) (by simp [hk']) (by simp [hj'])
        rw [Nat.zero_add] at this
        exact .inr (by simpa only [Bool.or_eq_true] using this)
theorem lexTailC_spec (h : lexTailC md l n = true) : Region.lexTailB md l.toArray n = true := by
  simp only [lexTailC, Bool.and_eq_true, decide_eq_true_eq] at h
  obtain ⟨⟨⟨⟨⟨h1, h2⟩, h3⟩, h4⟩, h5⟩, h6⟩ := h
  have hn : n < l.length := by simpa using h2
  simp only [Region.lexTailB, Bool.and_eq_true, decide_eq_true_eq]
  refine ⟨⟨⟨⟨h1, h2⟩, h3⟩, h4⟩, ?_⟩
  have hs : l.toArray.size = l.length := by simp
  rw [hs]
  exact UpTo.head h5 h4 h6 n 0 _ (UpTo.zero _) (by omega) hn
end
end Go.Proofs.YtpmmnjeomdjakaaDoor

end

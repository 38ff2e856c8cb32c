/- A cheaper check of a region's order: head in any order, tail as in the text. -/
import Derived.Test.YtfmfknjjhemnoaaQtail
namespace Go.Proofs.Ytfmfknjjhemnoaa
set_option linter.unusedVariables false
set_option linter.unusedSimpArgs false
open Go.RowKit

/-- From k on each waits for earlier ones alone. -/
def lowB (md : Region.Mode) : Nat → List Oper → Bool
  | _, [] => true
  | k, o :: l => o.after.all (fun e => !Region.binds md e || decide (e.on < k)) && lowB md (k + 1) l
/-- Each of the first n: a later one waits for it or is apart from it. -/
def freeB (md : Region.Mode) (ops : Array Oper) : Nat → Nat → List Oper → Bool
  | 0, _, _ => true
  | _ + 1, _, [] => true
  | n + 1, k, o :: l => (l.all fun oj => oj.after.any (fun e => Region.binds md e && e.on == k) || o.apart ops oj) && freeB md ops n (k + 1) l
def lexTailC (md : Region.Mode) (l : List Oper) (n : Nat) : Bool :=
  Region.noSelect l.toArray && decide (n < l.toArray.size) && Region.sinkB md l.toArray n && Region.chainB md l.toArray n && lowB md 0 l && freeB md l.toArray n 0 l
section
variable {md : Region.Mode}
theorem lowB_spec : ∀ (l : List Oper) (k : Nat), lowB md k l = true → ∀ j o, l[j]? = some o → ∀ e ∈ o.after, Region.binds md e = true → e.on < k + j
  | [], _, _, _, _, h => by simp at h
  | o :: l, k, h, 0, o', h' => by
    simp only [List.getElem?_cons_zero, Option.some.injEq] at h'
    subst h'
    simp only [lowB, Bool.and_eq_true] at h
    intro e he hb
    have := Array.all_eq_true_iff_forall_mem.1 h.1 e he
    simpa [hb] using this
  | o :: l, k, h, j + 1, o', h' => by
    simp only [lowB, Bool.and_eq_true] at h
    intro e he hb
    have := lowB_spec l (k + 1) h.2 j o' (by simpa using h') e he hb
    omega
theorem freeB_spec {ops : Array Oper} : ∀ (n k : Nat) (l : List Oper), freeB md ops n k l = true → ∀ i j oi oj, i < n → i < j → l[i]? = some oi → l[j]? = some oj →
    (oj.after.any (fun e => Region.binds md e && e.on == k + i) || oi.apart ops oj) = true
  | 0, _, _, _, _, _, _, _, h, _, _, _ => absurd h (Nat.not_lt_zero _)
  | n + 1, _, [], _, _, _, _, _, _, _, h, _ => by simp at h
  | n + 1, k, o :: l, h, 0, j, oi, oj, _, hj, hi, hjo => by
    simp only [freeB, Bool.and_eq_true, List.all_eq_true] at h
    obtain ⟨j, rfl⟩ : ∃ t, j = t + 1 := ⟨j - 1, by omega⟩
    simp only [List.getElem?_cons_zero, Option.some.injEq] at hi
    subst hi
    exact h.1 oj (List.mem_of_getElem? (i := j) (by simpa using hjo))
  | n + 1, k, o :: l, h, i + 1, j, oi, oj, hin, hj, hi, hjo => by
    simp only [freeB, Bool.and_eq_true] at h
    obtain ⟨j, rfl⟩ : ∃ t, j = t + 1 := ⟨j - 1, by omega⟩
    have := freeB_spec n (k + 1) l h.2 i j oi oj (by omega) (by omega) (by simpa using hi) (by simpa using hjo)
    rwa [show k + 1 + i = k + (i + 1) by omega] at this
/-- The first k are listed. -/
def UpTo (d : Array Bool) (m k : Nat) : Prop := d.size = m ∧ ∀ i b, i < m → d.getD i b = decide (i < k)
theorem UpTo.zero (m : Nat) : UpTo (Array.replicate m false) m 0 := ⟨by simp, fun i b h => by simp [Array.getD, h]⟩
theorem UpTo.set {d : Array Bool} {m k : Nat} (h : UpTo d m k) (hk : k < m) : UpTo (d.setIfInBounds k true) m (k + 1) := by
  refine ⟨by simp [h.1], fun i b hi => ?_⟩
  by_cases e : i = k
  · subst e
    simp [Array.getD, h.1, hk]
  · rw [getD_set_ne b (Ne.symm e), h.2 i b hi]
    simp only [decide_eq_decide]
    omega
variable {l : List Oper} {n : Nat}
theorem UpTo.mem {d : Array Bool} {k : Nat} (h : UpTo d l.length k) (hl : lowB md 0 l = true) (hk : k < l.length) : k ∈ Region.ready md l.toArray d := by
  refine mem_ready.2 ⟨by rw [h.2 k true hk]; simp, l[k], by simp [hk], fun e he hb => ?_⟩
  have := lowB_spec l 0 hl k l[k] (by simp [hk]) e he hb
  rw [h.2 _ false (by omega)]
  simp
  omega
theorem UpTo.ready {d : Array Bool} {k i : Nat} (h : UpTo d l.length k) (hc : Region.chainB md l.toArray n = true) (hn : n ≤ k) (hi : i ∈ Region.ready md l.toArray d) : i = k ∧ k < l.length := by
  obtain ⟨h1, oi, ho, h2⟩ := mem_ready.1 hi
  have hil : i < l.length := by
    rcases Nat.lt_or_ge i l.length with h | h
    · exact h
    · simp [h] at ho
  rw [h.2 i true hil] at h1
  have hki : k ≤ i := by simpa using h1
  rcases Nat.lt_or_ge k i with hlt | hge
  · simp only [Region.chainB, List.all_eq_true, List.mem_range] at hc
    have hw := hc i (by simpa using hil)
    simp only [Bool.or_eq_true, decide_eq_true_eq] at hw
    rcases hw with hw | hw
    · omega
    · obtain ⟨oj, hj, e, he, hb, hon⟩ := Region.waitsFor_spec hw
      rw [ho] at hj
      obtain rfl := Option.some.inj hj
      have := h2 e he hb
      rw [hon, h.2 _ false (by omega)] at this
      have : i - 1 < k := by simpa using this
      omega
  · exact ⟨by omega, by omega⟩
theorem filter_range_one (p : Nat → Bool) (k : Nat) : ∀ m, (∀ i, i < m → (p i = true ↔ i = k)) → (List.range m).filter p = if k < m then [k] else []
  | 0, _ => by simp
  | m + 1, h => by
    rw [List.range_succ, List.filter_append, filter_range_one p k m (fun i hi => h i (by omega))]
    by_cases e : m = k
    · subst e
      have := (h m (by omega)).2 rfl
      simp [this]
    · have : p m = false := by
        cases hp : p m
        · rfl
        · exact absurd ((h m (by omega)).1 hp) e
      simp only [List.filter_cons, this, Bool.false_eq_true, if_false, List.filter_nil, List.append_nil]
      split <;> split <;> first | rfl | omega
theorem UpTo.seq (hl : lowB md 0 l = true) (hc : Region.chainB md l.toArray n = true) : ∀ (g k : Nat) (d : Array Bool), UpTo d l.length k → n ≤ k → k + g = l.length → Region.seqB md l.toArray g k d = true
  | 0, k, d, h, hn, hg => by
    simp only [Region.seqB, List.isEmpty_iff]
    refine List.eq_nil_iff_forall_not_mem.2 fun i hi => ?_
    have := h.ready hc hn hi
    omega
  | g + 1, k, d, h, hn, hg => by
    simp only [Region.seqB, Bool.and_eq_true, decide_eq_true_eq]
    refine ⟨?_, UpTo.seq hl hc g (k + 1) _ (h.set (by omega)) (by omega) (by omega)⟩
    have hm := h.mem hl (show k < l.length by omega)
    unfold Region.ready at hm ⊢
    rw [filter_range_one _ k _ (fun i hi => ?_), if_pos (by simp; omega)]
    constructor
    · intro hp
      refine (h.ready (i := i) hc hn ?_).1
      unfold Region.ready
      exact List.mem_filter.2 ⟨List.mem_range.2 hi, hp⟩
    · rintro rfl
      exact (List.mem_filter.1 hm).2
theorem UpTo.head (hl : lowB md 0 l = true) (hc : Region.chainB md l.toArray n = true) (hf : freeB md l.toArray n 0 l = true) : ∀ (f k : Nat) (d : Array Bool), UpTo d l.length k → k + f = n → n < l.length → Region.lexHead md l.toArray (l.length - n) f k d = true
  | 0, k, d, h, hk, hn => by
    obtain rfl : k = n := by omega
    exact UpTo.seq hl hc _ k d h (Nat.le_refl _) (by omega)
  | f + 1, k, d, h, hk, hn => by
    simp only [Region.lexHead, Bool.and_eq_true, List.contains_iff_mem]
    refine ⟨⟨h.mem hl (by omega), ?_⟩, UpTo.head hl hc hf f (k + 1) _ (h.set (by omega)) (by omega) hn⟩
    have hk' : k < l.length := by omega
    have h1 : l.toArray[k]? = some l[k] := by simp [hk']
    unfold Region.free
    simp only [h1, List.all_eq_true, List.mem_range]
    intro j hj
    have hj' : j < l.length := by simpa using hj
    have h2 : l.toArray[j]? = some l[j] := by simp [hj']
    simp only [h2, Bool.or_eq_true, beq_iff_eq]
    rw [h.2 j true hj']
    by_cases e : j = k
    · exact .inl (.inl e)
    · rcases Nat.lt_or_ge j k with hlt | hge
      · exact .inl (.inr (by simpa using hlt))
      · have := freeB_spec n 0 l hf k j l[k] l[j] (by omega) (by omega) (by simp [hk']) (by simp [hj'])
        rw [Nat.zero_add] at this
        exact .inr (by simpa only [Bool.or_eq_true] using this)
theorem lexTailC_spec (h : lexTailC md l n = true) : Region.lexTailB md l.toArray n = true := by
  simp only [lexTailC, Bool.and_eq_true, decide_eq_true_eq] at h
  obtain ⟨⟨⟨⟨⟨h1, h2⟩, h3⟩, h4⟩, h5⟩, h6⟩ := h
  have hn : n < l.length := by simpa using h2
  simp only [Region.lexTailB, Bool.and_eq_true, decide_eq_true_eq]
  refine ⟨⟨⟨⟨h1, h2⟩, h3⟩, h4⟩, ?_⟩
  have hs : l.toArray.size = l.length := by simp
  rw [hs]
  exact UpTo.head h5 h4 h6 n 0 _ (UpTo.zero _) (by omega) hn
end
end Go.Proofs.Ytfmfknjjhemnoaa

/- A region that draws its order and ends in stores: operation by operation, as bits/XQrg's law, what is promised may be any fact that new blocks leave alone, and any two may be apart; behind them the stores, in the order of the text. -/
import Derived.StillTail
import Derived.Test.YtpmmnjeomdjakaaDoorQrg
import Derived.Test.YtpmmnjeomdjakaaDoorQheld
namespace Go.Proofs.YtpmmnjeomdjakaaDoor
set_option linter.unusedVariables false
set_option linter.unusedSimpArgs false
open Go.RowKit

section
variable {P : Program} {ops : Array Oper} {Q : Exit → Act → World → Prop} {md : Region.Mode}
/-- The operations below n: each writes a slot of its own, and waits for earlier ones alone. -/
def rtB (md : Region.Mode) (ops : Array Oper) (n size : Nat) : Bool :=
  (List.range n).all fun i => match ops[i]? with
    | some o => (match o.dst with
      | some t => decide (t < size) && (List.range i).all fun j => dstAt ops j != t
      | none => false) && o.after.all fun e => !Region.binds md e || decide (e.on < i)
    | none => false
theorem rtB_spec {n size : Nat} (h : rtB md ops n size = true) {i : Nat} {o : Oper} (hi : i < n) (ho : ops[i]? = some o) :
    (o.dst = some (dstAt ops i) ∧ dstAt ops i < size ∧ ∀ j, j < i → dstAt ops j ≠ dstAt ops i) ∧ ∀ e ∈ o.after, Region.binds md e = true → e.on < i := by
  unfold rtB at h
  rw [List.all_eq_true] at h
  have h1 := h i (List.mem_range.2 hi)
  rw [ho] at h1
  simp only [Bool.and_eq_true] at h1
  obtain ⟨h1, h2⟩ := h1
  constructor
  · cases hd : o.dst with
    | none => rw [hd] at h1; cases h1
    | some t =>
      rw [hd] at h1
      simp only [Bool.and_eq_true, decide_eq_true_eq, List.all_eq_true, List.mem_range, bne_iff_ne, ne_eq] at h1
      have e : dstAt ops i = t := by simp [dstAt, ho, hd]
      rw [e]
      exact ⟨rfl, h1.1, h1.2⟩
  · intro e he hb
    have := Array.all_eq_true_iff_forall_mem.1 h2 e he
    simpa [hb] using this
theorem rtB_ne {n size : Nat} (h : rtB md ops n size = true) (hn : n < ops.size) {i j : Nat} (hi : i < n) (hj : j < n) (hij : i ≠ j) : dstAt ops i ≠ dstAt ops j := by
  rcases Nat.lt_or_gt_of_ne hij with hl | hl
  · exact (rtB_spec h hj (Array.getElem?_eq_getElem (by omega))).1.2.2 i hl
  · exact fun e => (rtB_spec h hi (Array.getElem?_eq_getElem (by omega))).1.2.2 j hl e.symm
variable {F : Nat → Value → World → Prop} {G : Nat → Nat → Value → Value → Prop} {W : World} {a0 : Act} {n : Nat}
/-- What holds whatever has been done: d. -/
structure RtInv (ops : Array Oper) (F : Nat → Value → World → Prop) (G : Nat → Nat → Value → Value → Prop) (W : World) (a0 : Act) (n : Nat) (d : Array Bool) (a : Act) (w : World) : Prop where
  s : Only [] W w
  size : a.tmps.size = a0.tmps.size
  defs : a.defers = a0.defers
  out : ∀ t, (∀ i, i < n → dstAt ops i ≠ t) → a.eval (.tmp t) = a0.eval (.tmp t)
  did : ∀ i, i < n → d.getD i true = true → F i (a.eval (.tmp (dstAt ops i))) w
  two : ∀ i j, i < n → j < n → i ≠ j → d.getD i true = true → d.getD j true = true → G i j (a.eval (.tmp (dstAt ops i))) (a.eval (.tmp (dstAt ops j))) ∨ G j i (a.eval (.tmp (dstAt ops j))) (a.eval (.tmp (dstAt ops i)))
theorem getD_replicate_in {m i : Nat} (h : i < m) : (Array.replicate m false).getD i true = false := by simp [Array.getD, h]
theorem head_done {d : Array Bool} (I : HeadInv md ops n d) (hn : n < ops.size) (hc : d.toList.count false ≤ ops.size - n) : ∀ i, i < n → d.getD i true = true := by
  intro i hi
  cases hb : d.getD i true with
  | true => rfl
  | false =>
    exfalso
    have hs := I.size
    have e : d.toList = d.toList.take n ++ d.toList.drop n := (List.take_append_drop n _).symm
    rw [e, List.count_append] at hc
    have h1 : (d.toList.drop n).count false = ops.size - n := by
      rw [List.count_eq_length.2, List.length_drop, Array.length_toList, hs]
      intro b hb
      obtain ⟨j, hj⟩ := List.getElem?_of_mem hb
      rw [List.getElem?_drop] at hj
      have hl : n + j < d.size := by
        have := (List.getElem?_eq_some_iff.1 hj).1
        simpa using this
      have ht := I.tail (n + j) (by omega) (by omega)
      simp [Array.getD, hl] at ht
      have hj' : d[n + j]? = some b := by simpa using hj
      rw [Array.getElem?_eq_getElem hl] at hj'
      have := Option.some.inj hj'
      rw [ht] at this
      exact this
    have h2 : 0 < (d.toList.take n).count false := by
      refine List.count_pos_iff.2 ?_
      have hl : i < d.size := by omega
      simp [Array.getD, hl] at hb
      have : (d.toList.take n)[i]? = some false := by
        rw [List.getElem?_take, if_pos hi]
        simp [hl, hb]
      exact List.mem_of_getElem? this
    omega
theorem wpAny_rt (hB : rtB md ops n a0.tmps.size = true) (hn : n < ops.size) (hs : Region.sinkB md ops n = true) (hc : Region.chainB md ops n = true) (hseq : Region.seqB md ops (ops.size - n) n ((List.replicate n true ++ List.replicate (ops.size - n) false).toArray) = true)
    (hF : ∀ i v w w', F i v w → Only [] w w' → F i v w')
    (step : ∀ (i : Nat) (o : Oper), i < n → ops[i]? = some o → ∀ (a : Act) (w : World), Only [] W w → a.tmps.size = a0.tmps.size → (∀ t, (∀ i, i < n → dstAt ops i ≠ t) → a.eval (.tmp t) = a0.eval (.tmp t)) →
      (∀ j, (o.after.any fun e => Region.binds md e && e.on == j) = true → F j (a.eval (.tmp (dstAt ops j))) w) →
      ∀ K : Act → World → Prop, (∀ v w', F i v w' → Only [] w w' → (∀ j u, j < n → j ≠ i → F j u w → G j i u v) → K (a.put o.dst v) w') → Region.wanted o (yielded ops a.tmps) = true ∧ o.wp P a w K Q)
    (fin : ∀ a w, Only [] W w → a.tmps.size = a0.tmps.size → a.defers = a0.defers → (∀ t, (∀ i, i < n → dstAt ops i ≠ t) → a.eval (.tmp t) = a0.eval (.tmp t)) → (∀ i, i < n → F i (a.eval (.tmp (dstAt ops i))) w) →
      (∀ i j, i < n → j < n → i ≠ j → G i j (a.eval (.tmp (dstAt ops i))) (a.eval (.tmp (dstAt ops j))) ∨ G j i (a.eval (.tmp (dstAt ops j))) (a.eval (.tmp (dstAt ops i)))) → wpList P ops Q (ops.toList.drop n) a w) :
    ∀ (f : Nat) (d : Array Bool) (a : Act) (w : World), RtInv ops F G W a0 n d a w → HeadInv md ops n d → d.toList.count false = f + (ops.size - n) → wpAny P md ops Q (f + (ops.size - n)) d a w := by
  intro f
  induction f with
  | zero =>
    intro d a w h I hcnt
    have all := head_done I hn (by omega)
    have hd : d = (List.replicate n true ++ List.replicate (ops.size - n) false).toArray := by
      apply Array.ext
      · have := I.size
        simp
        omega
      · intro i h1 h2
        have hsz := I.size
        by_cases hi : i < n
        · have := all i hi
          simp [Array.getD, h1] at this
          simp [this, List.getElem_append, hi]
        · have := I.tail i (by omega) (by omega)
          simp [Array.getD, h1] at this
          simp [this, List.getElem_append, hi]
    have hlen : (ops.toList.drop n).length = ops.size - n := by rw [List.length_drop, Array.length_toList]
    have := wpAny_of_seq (md := md) (Q' := Q) (ops.toList.drop n) n d a w (fun j => by simp [List.getElem?_drop]) (by rw [hlen, hd]; exact hseq) (fin a w h.s h.size h.defs h.out (fun i hi => h.did i hi (all i hi)) (fun i j hi hj hij => h.two i j hi hj hij (all i hi) (all j hj)))
    rw [hlen] at this
    rw [Nat.zero_add]
    exact this
  | succ f ih =>
    intro d a w h I hcnt
    obtain ⟨i0, hi0, hun0⟩ : ∃ i, i < n ∧ d.getD i true = false := by
      by_cases hx : ∃ i, i < n ∧ d.getD i true = false
      · exact hx
      · exfalso
        have all : ∀ i, i < n → d.getD i true = true := fun i hi => by
          cases hb : d.getD i true with
          | true => rfl
          | false => exact absurd ⟨i, hi, hb⟩ hx
        have e : d.toList = d.toList.take n ++ d.toList.drop n := (List.take_append_drop n _).symm
        rw [e, List.count_append] at hcnt
        have h1 : (d.toList.drop n).count false ≤ ops.size - n := Nat.le_trans List.count_le_length (by rw [List.length_drop, Array.length_toList, I.size]; omega)
        have h2 : (d.toList.take n).count false = 0 := by
          rw [List.count_eq_zero]
          intro hm
          obtain ⟨j, hj⟩ := List.getElem?_of_mem hm
          rw [List.getElem?_take] at hj
          split at hj
          · rename_i hjn
            have := all j hjn
            have hl : j < d.size := by rw [I.size]; omega
            simp [Array.getD, hl] at this
            simp [hl, this] at hj
          · cases hj
        omega
    rw [Nat.add_right_comm]
    refine ⟨fun hr => ?_, fun i hi => ?_⟩
    · exfalso
      have all : ∀ i, i < n → d.getD i true = true := by
        intro i
        induction i using Nat.strongRecOn with
        | ind i hind =>
          intro hi
          cases hb : d.getD i true with
          | true => rfl
          | false =>
            exfalso
            have ho := Array.getElem?_eq_getElem (show i < ops.size by omega)
            have : i ∈ Region.ready md ops d := mem_ready.2 ⟨hb, _, ho, fun e he hbe => by
              have hl := (rtB_spec hB hi ho).2 e he hbe
              have h3 := hind e.on hl (by omega)
              have hsz : e.on < d.size := by rw [I.size]; omega
              simp [Array.getD, hsz] at h3 ⊢
              exact h3⟩
            rw [hr] at this
            cases this
      rw [all i0 hi0] at hun0
      cases hun0
    · obtain ⟨hun, o, ho, hall⟩ := mem_ready.1 hi
      have hin : i < n := Nat.lt_of_not_le fun hge => tail_waits hs hc hn I _ i0 rfl hi0 hun0 i hge hi
      obtain ⟨⟨hd, hlt, hne⟩, hback⟩ := rtB_spec hB hin ho
      have K : ∀ v w', F i v w' → Only [] w w' → (∀ j u, j < n → j ≠ i → F j u w → G j i u v) → wpAny P md ops Q (f + (ops.size - n)) (d.setIfInBounds i true) (a.put o.dst v) w' := fun v w' hv hR hG => by
        have self : (a.put o.dst v).eval (.tmp (dstAt ops i)) = v := by rw [hd, eval_put_self (by rw [h.size]; exact hlt)]
        have other : ∀ j, j < n → i ≠ j → (a.put o.dst v).eval (.tmp (dstAt ops j)) = a.eval (.tmp (dstAt ops j)) := fun j hj hij => by rw [hd, eval_put_ne (rtB_ne hB hn hin hj hij)]
        have old : ∀ j, i ≠ j → (d.setIfInBounds i true).getD j true = true → d.getD j true = true := fun j hij hdj => by rwa [getD_set_ne true hij] at hdj
        refine ih _ _ _ ⟨h.s.trans hR, by rw [hd]; simp [Act.put, h.size], by rw [hd]; exact h.defs, fun t ht => ?_, fun j hj hdj => ?_, fun j k hj hk hjk hdj hdk => ?_⟩ (I.set hi hin) (by have := count_set_true hun; omega)
        · rw [hd, eval_put_ne (ht i hin)]
          exact h.out t ht
        · by_cases hij : i = j
          · subst hij
            rw [self]
            exact hv
          · rw [other j hj hij]
            exact hF j _ w w' (h.did j hj (old j hij hdj)) hR
        · by_cases hij : i = j
          · subst hij
            rw [self, other k hk hjk]
            exact .inr (hG k _ hk (Ne.symm hjk) (h.did k hk (old k hjk hdk)))
          · by_cases hik : i = k
            · subst hik
              rw [self, other j hj hij]
              exact .inl (hG j _ hj hjk (h.did j hj (old j hij hdj)))
            · rw [other j hj hij, other k hk hik]
              exact h.two j k hj hk hjk (old j hij hdj) (old k hik hdk)
      have hst := step i o hin ho a w h.s h.size h.out (fun j hj => by
        simp only [Array.any_eq_true, Bool.and_eq_true, beq_iff_eq] at hj
        obtain ⟨m, hm, hb, rfl⟩ := hj
        have hon := hall _ (Array.getElem_mem hm) hb
        have hlt2 := hback _ (Array.getElem_mem hm) hb
        refine h.did _ (by omega) ?_
        have hsz : (o.after[m]).on < d.size := by rw [I.size]; omega
        simp [Array.getD, hsz] at hon ⊢
        exact hon) _ K
      unfold wpOp
      rw [ho]
      simp only
      rw [if_pos hst.1]
      exact .inl hst.2
/-- The beginning. -/
theorem wp_region_rt {id : Nat} {w : World} (n : Nat) (F : Nat → Value → World → Prop) (G : Nat → Nat → Value → Value → Prop) (hm : P.follows .mixedOrders = true) (hB : (rtB .any ops n a0.tmps.size && decide (n < ops.size) && Region.sinkB .any ops n && Region.chainB .any ops n && Region.seqB .any ops (ops.size - n) n ((List.replicate n true ++ List.replicate (ops.size - n) false).toArray)) = true)
    (hF : ∀ i v w w', F i v w → Only [] w w' → F i v w')
    (step : ∀ (i : Nat) (o : Oper), i < n → ops[i]? = some o → ∀ (a : Act) (w' : World), Only [] w w' → a.tmps.size = a0.tmps.size → (∀ t, (∀ i, i < n → dstAt ops i ≠ t) → a.eval (.tmp t) = a0.eval (.tmp t)) →
      (∀ j, (o.after.any fun e => Region.binds .any e && e.on == j) = true → F j (a.eval (.tmp (dstAt ops j))) w') →
      ∀ K : Act → World → Prop, (∀ v w'', F i v w'' → Only [] w' w'' → (∀ j u, j < n → j ≠ i → F j u w' → G j i u v) → K (a.put o.dst v) w'') → Region.wanted o (yielded ops a.tmps) = true ∧ o.wp P a w' K Q)
    (fin : ∀ a w', Only [] w w' → a.tmps.size = a0.tmps.size → a.defers = a0.defers → (∀ t, (∀ i, i < n → dstAt ops i ≠ t) → a.eval (.tmp t) = a0.eval (.tmp t)) → (∀ i, i < n → F i (a.eval (.tmp (dstAt ops i))) w') →
      (∀ i j, i < n → j < n → i ≠ j → G i j (a.eval (.tmp (dstAt ops i))) (a.eval (.tmp (dstAt ops j))) ∨ G j i (a.eval (.tmp (dstAt ops j))) (a.eval (.tmp (dstAt ops i)))) → wpList P ops Q (ops.toList.drop n) a w') : (Code.region id ops true).wp P Q a0 w := by
  simp only [Bool.and_eq_true, decide_eq_true_eq] at hB
  obtain ⟨⟨⟨⟨h1, h2⟩, h3⟩, h4⟩, h5⟩ := hB
  have R := wpAny_rt (md := .any) h1 h2 h3 h4 h5 hF step fin n (Array.replicate ops.size false) a0 w.drew ⟨(Only.refl [] w).drew, rfl, rfl, fun _ _ => rfl, fun i hi hd => (by rw [getD_replicate_in (by omega)] at hd; cases hd), fun i j hi hj hij hd _ => (by rw [getD_replicate_in (by omega)] at hd; cases hd)⟩
    ⟨by simp, fun j oj _ e => (by rw [getD_replicate_false] at e; cases e), fun t _ hq => getD_in (by simpa using hq) (getD_replicate_false _ _)⟩ (by simp; omega)
  rw [show n + (ops.size - n) = ops.size by omega] at R
  exact wp_region_any hm R
end
end Go.Proofs.YtpmmnjeomdjakaaDoor

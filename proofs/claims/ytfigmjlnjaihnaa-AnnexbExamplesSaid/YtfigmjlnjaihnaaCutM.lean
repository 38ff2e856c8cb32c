/- Plain facts: start codes in a string, what is before the first one and what follows each of them; the units that the program finds are those of the stream. -/
import Derived.Test.YtfigmjlnjaihnaaAnM
import Derived.Test.YtfigmjlnjaihnaaRMay
import Derived.Lib.CutLaws
namespace Go.Proofs.Ytfigmjlnjaihnaa
set_option linter.unusedVariables false

/-- A start code begins here. -/
def scB : List UInt8 → Bool
  | a :: b :: c :: _ => a == 0 && b == 0 && c == 1
  | _ => false
/-- What is before the first start code. -/
def beforeSc : List UInt8 → List UInt8
  | [] => []
  | b :: l => if scB (b :: l) = true then [] else b :: beforeSc l
/-- What follows each start code. -/
def rests : List UInt8 → List (List UInt8)
  | [] => []
  | b :: l => if scB (b :: l) = true then l.drop 2 :: rests l else rests l
/-- Without the bytes 0 at the end. -/
def trim0 : List UInt8 → List UInt8
  | [] => []
  | b :: l => if (b :: l).all (· == 0) = true then [] else b :: trim0 l
/-- A unit, and what is before the first one. -/
def ub (l : List UInt8) : List UInt8 := trim0 (beforeSc l)

theorem sc_form {l : List UInt8} (h : scB l = true) : ∃ r, l = 0 :: 0 :: 1 :: r := by
  match l, h with
  | a :: b :: c :: r, h =>
    simp only [scB, Bool.and_eq_true, beq_iff_eq] at h
    exact ⟨r, by rw [h.1.1, h.1.2, h.2]⟩
theorem sc_mk (r : List UInt8) : scB (0 :: 0 :: 1 :: r) = true := rfl
theorem rests_sc (r : List UInt8) : rests (0 :: 0 :: 1 :: r) = r :: rests r := by
  have e0 : scB (0 :: 1 :: r) = false := by cases r <;> rfl
  have e1 : scB (1 :: r) = false := by
    match r with
    | [] => rfl
    | [_] => rfl
    | _ :: _ :: _ => rfl
  conv => lhs; rw [rests, if_pos (sc_mk r), rests, e0, if_neg (by simp), rests, e1, if_neg (by simp)]
  rfl
theorem sc_split (l : List UInt8) : (rests l = [] ∧ beforeSc l = l ∧ ∀ p r, l ≠ p ++ 0 :: 0 :: 1 :: r) ∨ ∃ r, l = beforeSc l ++ 0 :: 0 :: 1 :: r ∧ rests l = r :: rests r := by
  induction l with
  | nil => exact .inl ⟨rfl, rfl, fun p r h => by have := congrArg List.length h; simp at this⟩
  | cons b l ih =>
    by_cases h : scB (b :: l) = true
    · obtain ⟨r, hr⟩ := sc_form h
      right
      refine ⟨r, ?_, ?_⟩
      · rw [beforeSc, if_pos h, List.nil_append, hr]
      · rw [hr, rests_sc]
    · rw [beforeSc, if_neg h, rests, if_neg h]
      rcases ih with ⟨h1, h2, h3⟩ | ⟨r, h1, h2⟩
      · left
        refine ⟨h1, by rw [h2], fun p r e => ?_⟩
        cases p with
        | nil => exact h (by rw [e]; rfl)
        | cons c p =>
          injection e with _ e
          exact h3 p r e
      · exact .inr ⟨r, by rw [List.cons_append, ← h1], h2⟩
theorem nosc_snoc {l : List UInt8} {b : UInt8} (h : ∀ p r, l ≠ p ++ 0 :: 0 :: 1 :: r) (hb : b = 1 → ∀ p, l ≠ p ++ [0, 0]) : ∀ p r, l ++ [b] ≠ p ++ 0 :: 0 :: 1 :: r := by
  intro p r e
  rcases List.eq_nil_or_concat r with rfl | ⟨r', c, rfl⟩
  · rw [show p ++ [0, 0, 1] = (p ++ [0, 0]) ++ [1] by simp] at e
    obtain ⟨e1, e2⟩ := List.append_inj' e rfl
    exact hb (by simpa using e2) p e1
  · rw [List.concat_eq_append, show p ++ 0 :: 0 :: 1 :: (r' ++ [c]) = (p ++ 0 :: 0 :: 1 :: r') ++ [c] by simp] at e
    obtain ⟨e1, e2⟩ := List.append_inj' e rfl
    exact h p r' e1
theorem sc_first (p r : List UInt8) (h : ∀ p' r', p ++ [0, 0] ≠ p' ++ 0 :: 0 :: 1 :: r') : beforeSc (p ++ 0 :: 0 :: 1 :: r) = p := by
  induction p with
  | nil => rw [List.nil_append, beforeSc, if_pos (sc_mk r)]
  | cons b p ih =>
    have hn : ¬ scB (b :: p ++ 0 :: 0 :: 1 :: r) = true := fun hs => by
      obtain ⟨r', hr⟩ := sc_form hs
      match p, hr with
      | [], hr => simp at hr
      | [c], hr => simp at hr
      | c :: d :: p, hr =>
        simp only [List.cons_append, List.cons.injEq] at hr
        obtain ⟨rfl, rfl, rfl, _⟩ := hr
        exact h [] (p ++ [0, 0]) (by simp)
    rw [List.cons_append] at hn ⊢
    rw [beforeSc, if_neg hn, ih (fun p' r' e => h (b :: p') r' (by rw [List.cons_append, e]; rfl))]
theorem sc_rests (p r : List UInt8) (h : beforeSc (p ++ 0 :: 0 :: 1 :: r) = p) : rests (p ++ 0 :: 0 :: 1 :: r) = r :: rests r := by
  rcases sc_split (p ++ 0 :: 0 :: 1 :: r) with ⟨_, _, h3⟩ | ⟨r', h1, h2⟩
  · exact absurd rfl (h3 p r)
  · rw [h] at h1
    have := List.append_cancel_left h1
    simp at this
    rw [h2, this]

/-! The bytes 0 at the end. -/
theorem trim_len (l : List UInt8) : ∃ k, l = trim0 l ++ zerosL k := by
  induction l with
  | nil => exact ⟨0, rfl⟩
  | cons b l ih =>
    rw [trim0]
    split
    · rename_i h
      refine ⟨l.length + 1, ?_⟩
      rw [List.nil_append]
      unfold zerosL
      exact List.eq_replicate_iff.2 ⟨rfl, fun x hx => by simpa using List.all_eq_true.1 h x hx⟩
    · obtain ⟨k, hk⟩ := ih
      exact ⟨k, by rw [List.cons_append, ← hk]⟩
theorem trim_zeros (u : List UInt8) (k : Nat) (h : u.getLast? ≠ some 0) : trim0 (u ++ zerosL k) = u := by
  induction u with
  | nil =>
    rw [List.nil_append]
    cases k with
    | zero => rfl
    | succ k =>
      have e : zerosL (k + 1) = 0 :: zerosL k := by simp [zerosL, List.replicate_succ]
      rw [e, trim0, if_pos (by rw [← e]; simp [zerosL])]
  | cons b u ih =>
    rw [List.cons_append, trim0, if_neg, ih (last_tail h)]
    rw [← List.cons_append, List.all_append]
    intro e
    rw [Bool.and_eq_true] at e
    exact h (all_last _ (by simp) e.1)
theorem trim_last (l : List UInt8) : (trim0 l).getLast? ≠ some 0 := by
  induction l with
  | nil => simp [trim0]
  | cons b l ih =>
    rw [trim0]
    split
    · simp
    · rename_i h
      cases hl : trim0 l with
      | nil =>
        obtain ⟨k, hk⟩ := trim_len l
        rw [hl, List.nil_append] at hk
        intro e
        have e : b = 0 := by simpa using e
        apply h
        rw [e, hk]
        simp [zerosL]
      | cons c t => rw [List.getLast?_cons_cons, ← hl]; exact ih
theorem trim_snoc0 (l : List UInt8) : trim0 (l ++ [0]) = trim0 l := by
  obtain ⟨k, hk⟩ := trim_len l
  have := trim_zeros (trim0 l) (k + 1) (trim_last l)
  rw [show zerosL (k + 1) = zerosL k ++ [0] by unfold zerosL; rw [List.replicate_succ'], ← List.append_assoc, ← hk] at this
  exact this
theorem trim_snoc (l : List UInt8) (b : UInt8) (hb : b ≠ 0) : trim0 (l ++ [b]) = l ++ [b] := by
  have := trim_zeros (l ++ [b]) 0 (by simpa using hb)
  rw [show zerosL 0 = [] from rfl, List.append_nil] at this
  exact this

/-! What the program finds is what the stream says. -/
theorem stream_mk : ∀ (n : Nat) (r : List UInt8), r.length ≤ n → (∀ x, x ∈ rests r → mayB (ub x) = true) → ∃ t, r = ub r ++ t ∧ Stream ((rests r).map ub) t := by
  intro n
  induction n with
  | zero =>
    intro r hr _
    have : r = [] := List.length_eq_zero_iff.1 (by omega)
    subst this
    exact ⟨[], rfl, ⟨0, rfl⟩⟩
  | succ n ih =>
    intro r hr hm
    obtain ⟨k, hk⟩ := trim_len (beforeSc r)
    rcases sc_split r with ⟨h1, h2, _⟩ | ⟨r', h1, h2⟩
    · refine ⟨zerosL k, ?_, ?_⟩
      · conv => lhs; rw [← h2, hk]
        rfl
      · rw [h1]; exact ⟨k, rfl⟩
    · have hl : r'.length ≤ n := by
        have := congrArg List.length h1
        rw [List.length_append, List.length_cons, List.length_cons, List.length_cons] at this
        omega
      obtain ⟨t, e1, e2⟩ := ih r' hl (fun x hx => hm x (by rw [h2]; exact List.mem_cons_of_mem _ hx))
      refine ⟨zerosL k ++ 0 :: 0 :: 1 :: r', ?_, ?_⟩
      · conv => lhs; rw [h1, hk, List.append_assoc]
        rfl
      · rw [h2, List.map_cons]
        exact ⟨k, t, by rw [← e1], e2⟩
theorem sc_three {l : List UInt8} (h : scB l = true) : stopB l = true := by
  obtain ⟨r, rfl⟩ := sc_form h
  unfold stopB
  rw [Bool.or_eq_true]
  exact .inr rfl
theorem zeros_sc (n : Nat) (x : List UInt8) : beforeSc (zerosL n ++ 0 :: 0 :: 1 :: x) = zerosL n := by
  induction n with
  | zero => rw [show zerosL 0 = [] from rfl, List.nil_append, beforeSc, if_pos (sc_mk x)]
  | succ n ih =>
    have e : zerosL (n + 1) = 0 :: zerosL n := by simp [zerosL, List.replicate_succ]
    have hn : ¬ scB (0 :: (zerosL n ++ 0 :: 0 :: 1 :: x)) = true := by
      match n with
      | 0 => simp [zerosL, scB]
      | 1 => simp [zerosL, scB, List.replicate]
      | n + 2 => simp [zerosL, scB, List.replicate_succ]
    rw [e, List.cons_append, beforeSc, if_neg hn, ih]
theorem zeros_nosc (n : Nat) : beforeSc (zerosL n) = zerosL n ∧ rests (zerosL n) = [] := by
  induction n with
  | zero => exact ⟨rfl, rfl⟩
  | succ n ih =>
    have e : zerosL (n + 1) = 0 :: zerosL n := by simp [zerosL, List.replicate_succ]
    have hn : ¬ scB (0 :: zerosL n) = true := by
      match n with
      | 0 => simp [zerosL, scB]
      | 1 => simp [zerosL, scB, List.replicate]
      | n + 2 => simp [zerosL, scB, List.replicate_succ]
    rw [e, beforeSc, if_neg hn, rests, if_neg hn, ih.1, ih.2]
    exact ⟨rfl, rfl⟩
theorem unit_sc (v : List UInt8) (h1 : v.getLast? ≠ some 0) (h2 : ∀ i, ¬ Bad v i) (n : Nat) :
    (∀ x, beforeSc (v ++ (zerosL n ++ 0 :: 0 :: 1 :: x)) = v ++ zerosL n ∧ rests (v ++ (zerosL n ++ 0 :: 0 :: 1 :: x)) = x :: rests x) ∧ beforeSc (v ++ zerosL n) = v ++ zerosL n ∧ rests (v ++ zerosL n) = [] := by
  have A : ∀ x, beforeSc (v ++ (zerosL n ++ 0 :: 0 :: 1 :: x)) = v ++ zerosL n := by
    intro x
    induction v with
    | nil => exact zeros_sc n x
    | cons b v ih =>
      have hn : ¬ scB (b :: (v ++ (zerosL n ++ 0 :: 0 :: 1 :: x))) = true := fun h => by
        have := no_stop b v (zerosL n ++ 0 :: 0 :: 1 :: x) h1 h2
        rw [List.cons_append, sc_three h] at this
        cases this
      rw [List.cons_append, beforeSc, if_neg hn, ih (last_tail h1) (bad_tail h2), List.cons_append]
  refine ⟨fun x => ⟨A x, ?_⟩, ?_⟩
  · have := A x
    rw [← List.append_assoc] at this ⊢
    exact sc_rests _ _ this
  · induction v with
    | nil => exact zeros_nosc n
    | cons b v ih =>
      have hn : ¬ scB (b :: (v ++ zerosL n)) = true := fun h => by
        have := no_stop b v (zerosL n) h1 h2
        rw [List.cons_append, sc_three h] at this
        cases this
      obtain ⟨e1, e2⟩ := ih (last_tail h1) (bad_tail h2) (fun x => by
        have := A x
        have hn : ¬ scB (b :: (v ++ (zerosL n ++ 0 :: 0 :: 1 :: x))) = true := fun h => by
          have := no_stop b v (zerosL n ++ 0 :: 0 :: 1 :: x) h1 h2
          rw [List.cons_append, sc_three h] at this
          cases this
        rw [List.cons_append, beforeSc, if_neg hn, List.cons_append] at this
        injection this)
      rw [List.cons_append, beforeSc, if_neg hn, rests, if_neg hn, e1, e2]
      exact ⟨rfl, rfl⟩
theorem stream_ub (us : List (List UInt8)) : ∀ t, Stream us t → (∀ u, u ∈ us → MayP u) → ∀ v : List UInt8, v.getLast? ≠ some 0 → (∀ i, ¬ Bad v i) → ub (v ++ t) = v ∧ (rests (v ++ t)).map ub = us := by
  induction us with
  | nil =>
    rintro t ⟨n, rfl⟩ _ v h1 h2
    obtain ⟨_, e1, e2⟩ := unit_sc v h1 h2 n
    unfold ub
    rw [e1, e2, trim_zeros v n h1]
    exact ⟨rfl, rfl⟩
  | cons u us ih =>
    rintro t ⟨n, r, rfl, hs⟩ hm v h1 h2
    obtain ⟨e1, e2⟩ := (unit_sc v h1 h2 n).1 (u ++ r)
    have hu := hm u (by simp)
    obtain ⟨f1, f2⟩ := ih r hs (fun x hx => hm x (List.mem_cons_of_mem _ hx)) u hu.2.1 hu.2.2
    refine ⟨?_, ?_⟩
    · unfold ub
      rw [e1, trim_zeros v n h1]
    · rw [e2, List.map_cons, f1, f2]
/-- The units that the program finds. -/
def progP (l : List UInt8) : Option (List (List UInt8)) := if ub l = [] ∧ (rests l).all (fun r => mayB (ub r)) = true then some ((rests l).map ub) else none
theorem progP_eq (l : List UInt8) : progP l = parse l := by
  have back : ∀ us, parse l = some us → progP l = some us := fun us h => by
    obtain ⟨h1, h2⟩ := (parse_spec l us).1 h
    obtain ⟨e1, e2⟩ := stream_ub us l h2 h1 [] (by simp) (fun i h => by simp [Bad] at h)
    rw [List.nil_append] at e1 e2
    unfold progP
    rw [if_pos ⟨e1, List.all_eq_true.2 fun r hr => (mayB_iff _).2 (h1 _ (by rw [← e2]; exact List.mem_map_of_mem hr))⟩, e2]
  cases hp : parse l with
  | some us => exact back us hp
  | none =>
    unfold progP
    split
    · rename_i h
      have hm : ∀ x, x ∈ rests l → mayB (ub x) = true := fun x hx => List.all_eq_true.1 h.2 x hx
      obtain ⟨t, e1, e2⟩ := stream_mk l.length l (Nat.le_refl _) hm
      rw [h.1, List.nil_append] at e1
      subst e1
      have := (parse_spec l ((rests l).map ub)).2 ⟨fun u hu => by
        obtain ⟨x, hx, rfl⟩ := List.mem_map.1 hu
        exact (mayB_iff _).1 (hm x hx), e2⟩
      rw [hp] at this
      cases this
    · rfl
theorem parse_before {l : List UInt8} (h : ub l ≠ []) : parse l = none := by
  rw [← progP_eq]
  unfold progP
  rw [if_neg (fun e => h e.1)]
theorem parse_rests {l : List UInt8} (h : ub l = []) : parse l = if (rests l).all (fun r => mayB (ub r)) = true then some ((rests l).map ub) else none := by
  rw [← progP_eq]
  unfold progP
  by_cases e : (rests l).all (fun r => mayB (ub r)) = true
  · rw [if_pos ⟨h, e⟩, if_pos e]
  · rw [if_neg (fun x => e x.2), if_neg e]

/-! Go's Cut and Contains. -/
theorem index_sc (l : List UInt8) : Lib.index l [0, 0, 1] = if rests l = [] then -1 else ((beforeSc l).length : Int) := by
  induction l with
  | nil => rfl
  | cons b l ih =>
    have e : List.isPrefixOf [0, 0, 1] (b :: l) = scB (b :: l) := by
      match l with
      | [] => simp [scB, List.isPrefixOf]
      | [c] => simp [scB, List.isPrefixOf]
      | c :: d :: l =>
        have hc : ∀ x y : UInt8, (x == y) = (y == x) := fun x y => by rw [Bool.eq_iff_iff, beq_iff_eq, beq_iff_eq]; exact ⟨Eq.symm, Eq.symm⟩
        simp only [scB, List.isPrefixOf, Bool.and_true]
        rw [hc 0 b, hc 0 c, hc 1 d, Bool.and_assoc]
    rw [Lib.index, e]
    by_cases h : scB (b :: l) = true
    · rw [if_pos h, if_neg (by rw [rests, if_pos h]; simp), beforeSc, if_pos h]
      rfl
    · rw [if_neg h, rests, if_neg h, beforeSc, if_neg h, ih]
      by_cases hr : rests l = []
      · rw [if_pos hr, if_pos hr]
        rfl
      · rw [if_neg hr, if_neg hr, if_neg (by simp <;> omega)]
        simp
theorem cut_miss (l : List UInt8) (h : rests l = []) : Lib.cut l [0, 0, 1] = (l, [], false) := by
  unfold Lib.cut
  rw [index_sc, if_pos h, if_neg (by omega)]
theorem cut_hit (l r : List UInt8) (t : List (List UInt8)) (h : rests l = r :: t) : Lib.cut l [0, 0, 1] = (beforeSc l, r, true) ∧ t = rests r := by
  rcases sc_split l with ⟨h1, _, _⟩ | ⟨r', h1, h2⟩
  · rw [h1] at h; cases h
  · rw [h2] at h
    injection h with e1 e2
    subst e1
    refine ⟨?_, e2.symm⟩
    have ix : Lib.index l [0, 0, 1] = ((beforeSc l).length : Int) := by rw [index_sc, if_neg (by rw [h2]; simp)]
    unfold Lib.cut
    rw [ix, if_pos (by omega)]
    have a : l.take (beforeSc l).length = beforeSc l := by
      conv => lhs; arg 2; rw [h1]
      exact List.take_left
    have b : l.drop ((beforeSc l).length + 3) = r' := by
      rw [← List.drop_drop]
      conv => lhs; arg 2; arg 2; rw [h1]
      rw [List.drop_left]
      rfl
    rw [Int.toNat_natCast]
    exact Prod.ext a (Prod.ext b rfl)
theorem occ_three (l : List UInt8) (k : UInt8) (j : Nat) : Lib.occAt l [0, 0, k] j = true ↔ l[j]? = some 0 ∧ l[j + 1]? = some 0 ∧ l[j + 2]? = some k := by
  unfold Lib.occAt
  have g : ∀ i, l[j + i]? = (l.drop j)[i]? := fun i => List.getElem?_drop.symm
  rw [show l[j]? = l[j + 0]? from rfl, g, g, g]
  generalize l.drop j = d
  match d with
  | [] => simp [List.isPrefixOf]
  | [a] => simp [List.isPrefixOf]
  | [a, b] => simp [List.isPrefixOf]
  | a :: b :: c :: d =>
    have hc : ∀ x y : UInt8, (x == y) = true ↔ y = x := fun x y => by rw [beq_iff_eq]; exact ⟨Eq.symm, Eq.symm⟩
    simp [List.isPrefixOf, -beq_iff_eq, hc]
theorem contains_three (l : List UInt8) (k : UInt8) : Lib.contains l [0, 0, k] = true ↔ ∃ j : Nat, l[j]? = some 0 ∧ l[j + 1]? = some 0 ∧ l[j + 2]? = some k := by
  unfold Lib.contains
  rw [decide_eq_true_iff]
  constructor
  · intro h
    apply Classical.byContradiction
    intro hn
    rw [Lib.index_none (fun j _ => by
      cases e : Lib.occAt l [0, 0, k] j with
      | false => rfl
      | true => exact absurd ⟨j, (occ_three l k j).1 e⟩ hn)] at h
    omega
  · rintro ⟨j, hj⟩
    have hlt : j ≤ l.length := Nat.le_of_lt (List.getElem?_eq_some_iff.1 hj.1).1
    have hge := Lib.index_ge l [0, 0, k]
    apply Classical.byContradiction
    intro hn
    have e1 : Lib.index l [0, 0, k] = -1 := by omega
    have hex : ∃ i, i ≤ l.length ∧ Lib.occAt l [0, 0, k] i = true := ⟨j, hlt, (occ_three l k j).2 hj⟩
    -- the first one
    obtain ⟨i, hi⟩ : ∃ i, (i ≤ l.length ∧ Lib.occAt l [0, 0, k] i = true) ∧ ∀ m, m < i → ¬ (m ≤ l.length ∧ Lib.occAt l [0, 0, k] m = true) := by
      have : ∀ n i, i ≤ n → (i ≤ l.length ∧ Lib.occAt l [0, 0, k] i = true) → ∃ i, (i ≤ l.length ∧ Lib.occAt l [0, 0, k] i = true) ∧ ∀ m, m < i → ¬ (m ≤ l.length ∧ Lib.occAt l [0, 0, k] m = true) := by
        intro n
        induction n with
        | zero => intro i hi h; exact ⟨i, h, fun m hm => by omega⟩
        | succ n ih =>
          intro i hi h
          by_cases he : ∃ m, m < i ∧ (m ≤ l.length ∧ Lib.occAt l [0, 0, k] m = true)
          · obtain ⟨m, hm, hp⟩ := he
            exact ih m (by omega) hp
          · exact ⟨i, h, fun m hm hp => he ⟨m, hm, hp⟩⟩
      exact this j j (Nat.le_refl _) ⟨hlt, (occ_three l k j).2 hj⟩
    have := Lib.index_first hi.1.1 hi.1.2 (fun m hm => by
      cases e : Lib.occAt l [0, 0, k] m with
      | false => rfl
      | true => exact absurd ⟨by omega, e⟩ (hi.2 m hm))
    omega
theorem u8_le2 (x : UInt8) : x ≤ 2 ↔ x = 0 ∨ x = 1 ∨ x = 2 := by
  rw [UInt8.le_iff_toNat_le, ← UInt8.toNat_inj, ← UInt8.toNat_inj, ← UInt8.toNat_inj]
  show x.toNat ≤ 2 ↔ x.toNat = 0 ∨ x.toNat = 1 ∨ x.toNat = 2
  omega
theorem bad_contains (l : List UInt8) : (∀ i, ¬ Bad l i) ↔ Lib.contains l [0, 0, 0] = false ∧ Lib.contains l [0, 0, 1] = false ∧ Lib.contains l [0, 0, 2] = false := by
  have key : ∀ i, Bad l i ↔ l[i]? = some 0 ∧ l[i + 1]? = some 0 ∧ (l[i + 2]? = some 0 ∨ l[i + 2]? = some 1 ∨ l[i + 2]? = some 2) := fun i => by
    unfold Bad
    constructor
    · rintro ⟨a, b, x, hx, hl⟩
      refine ⟨a, b, ?_⟩
      rcases (u8_le2 x).1 hl with rfl | rfl | rfl
      · exact .inl hx
      · exact .inr (.inl hx)
      · exact .inr (.inr hx)
    · rintro ⟨a, b, h | h | h⟩
      · exact ⟨a, b, 0, h, by decide⟩
      · exact ⟨a, b, 1, h, by decide⟩
      · exact ⟨a, b, 2, h, by decide⟩
  constructor
  · intro h
    refine ⟨?_, ?_, ?_⟩
    · cases e : Lib.contains l [0, 0, 0] with
      | false => rfl
      | true => obtain ⟨j, a, b, c⟩ := (contains_three l 0).1 e; exact absurd ((key j).2 ⟨a, b, .inl c⟩) (h j)
    · cases e : Lib.contains l [0, 0, 1] with
      | false => rfl
      | true => obtain ⟨j, a, b, c⟩ := (contains_three l 1).1 e; exact absurd ((key j).2 ⟨a, b, .inr (.inl c)⟩) (h j)
    · cases e : Lib.contains l [0, 0, 2] with
      | false => rfl
      | true => obtain ⟨j, a, b, c⟩ := (contains_three l 2).1 e; exact absurd ((key j).2 ⟨a, b, .inr (.inr c)⟩) (h j)
  · rintro ⟨h0, h1, h2⟩ i hb
    obtain ⟨a, b, c | c | c⟩ := (key i).1 hb
    · rw [(contains_three l 0).2 ⟨i, a, b, c⟩] at h0; cases h0
    · rw [(contains_three l 1).2 ⟨i, a, b, c⟩] at h1; cases h1
    · rw [(contains_three l 2).2 ⟨i, a, b, c⟩] at h2; cases h2

/-! unitBefore, place by place. -/
theorem ub_take (l : List UInt8) : ub l = l.take (ub l).length := by
  obtain ⟨k, hk⟩ := trim_len (beforeSc l)
  rcases sc_split l with ⟨_, h2, _⟩ | ⟨r, h1, _⟩
  · have : l = ub l ++ zerosL k := by conv => lhs; rw [← h2, hk]
                                      rfl
    conv => rhs; arg 2; rw [this]
    rw [List.take_left]
  · have : l = ub l ++ (zerosL k ++ 0 :: 0 :: 1 :: r) := by
      conv => lhs; rw [h1, hk, List.append_assoc]
      rfl
    conv => rhs; arg 2; rw [this]
    rw [List.take_left]
def NoSc (l : List UInt8) : Prop := ∀ p r, l ≠ p ++ 0 :: 0 :: 1 :: r
theorem nosc_nil : NoSc [] := fun p r h => by have := congrArg List.length h; simp at this
theorem ub_done {l : List UInt8} (h : NoSc l) : ub l = trim0 l := by
  rcases sc_split l with ⟨_, h2, _⟩ | ⟨r, h1, _⟩
  · unfold ub; rw [h2]
  · exact absurd h1 (h _ _)
theorem ub_break {l : List UInt8} {i : Nat} (h : NoSc (l.take i)) (hi : l[i]? = some 1) (he : (trim0 (l.take i)).length + 2 ≤ i) : ub l = trim0 (l.take i) := by
  obtain ⟨hlt, hv⟩ := List.getElem?_eq_some_iff.1 hi
  obtain ⟨k, hk⟩ := trim_len (l.take i)
  have hlen : i = (trim0 (l.take i)).length + k := by
    have := congrArg List.length hk
    rw [List.length_take, Nat.min_eq_left (by omega), List.length_append, zeros_len] at this
    exact this
  obtain ⟨m, rfl⟩ : ∃ m, k = m + 2 := ⟨k - 2, by omega⟩
  rw [zeros_two, ← List.append_assoc] at hk
  have hl : l = (trim0 (l.take i) ++ zerosL m) ++ 0 :: 0 :: 1 :: l.drop (i + 1) := by
    conv => lhs; rw [← List.take_append_drop i l, List.drop_eq_getElem_cons hlt, hv, hk]
    simp
  have hb := sc_first (trim0 (l.take i) ++ zerosL m) (l.drop (i + 1)) (fun p r e => h p r (by rw [hk]; exact e))
  unfold ub
  conv => lhs; rw [hl, hb]
  exact trim_zeros _ _ (trim_last _)
theorem take_snoc {l : List UInt8} {i : Nat} {b : UInt8} (h : l[i]? = some b) : l.take (i + 1) = l.take i ++ [b] := by
  obtain ⟨hlt, rfl⟩ := List.getElem?_eq_some_iff.1 h
  exact List.take_succ_eq_append_getElem hlt
theorem nosc_next {l : List UInt8} {i : Nat} {b : UInt8} (h : NoSc (l.take i)) (hb : l[i]? = some b) (hn : b = 1 → ¬ (trim0 (l.take i)).length + 2 ≤ i) : NoSc (l.take (i + 1)) := by
  rw [take_snoc hb]
  refine nosc_snoc h (fun e p hp => hn e ?_)
  have h0 : trim0 (l.take i) = trim0 p := by
    rw [hp, show p ++ [0, 0] = (p ++ [0]) ++ [0] by simp, trim_snoc0, trim_snoc0]
  obtain ⟨hlt, _⟩ := List.getElem?_eq_some_iff.1 hb
  have h1 := congrArg List.length hp
  rw [List.length_take, Nat.min_eq_left (by omega), List.length_append] at h1
  obtain ⟨k, hk⟩ := trim_len p
  have h2 := congrArg List.length hk
  rw [List.length_append] at h2
  rw [h0]
  simp at h1
  omega
end Go.Proofs.Ytfigmjlnjaihnaa

/- Plain facts on the program's own way to escape: pairs of a byte and the number of bytes 0 before it. -/
import Derived.Test.YtghdnefaempigaaDoorNalM
import Derived.Lib.TrimByte
namespace Go.Proofs.YtghdnefaempigaaDoor
set_option linter.unusedVariables false

def zUp (z : Nat) (b : UInt8) : Nat := if b = 0 then z + 1 else 0
/-- Each byte with the number of bytes 0 directly before it, z of them ahead of the first. -/
def pairsF : Nat → List UInt8 → List (UInt8 × Nat)
  | _, [] => []
  | z, b :: l => (b, z) :: pairsF (zUp z b) l
def endF : Nat → List UInt8 → Nat
  | z, [] => z
  | z, b :: l => endF (zUp z b) l
theorem pairsF_append (l m : List UInt8) : ∀ z, pairsF z (l ++ m) = pairsF z l ++ pairsF (endF z l) m := by
  induction l with
  | nil => intro z; rfl
  | cons b l ih => intro z; simp only [List.cons_append, pairsF, endF, ih]
theorem endF_append (l m : List UInt8) : ∀ z, endF z (l ++ m) = endF (endF z l) m := by
  induction l with
  | nil => intro z; rfl
  | cons b l ih => intro z; simp only [List.cons_append, endF, ih]
theorem pairsF_length (l : List UInt8) : ∀ z, (pairsF z l).length = l.length := by
  induction l with
  | nil => intro z; rfl
  | cons b l ih => intro z; simp only [pairsF, List.length_cons, ih]
theorem pairsF_take (l : List UInt8) (k : Nat) : ∀ z, (pairsF z l).take k = pairsF z (l.take k) := by
  induction l generalizing k with
  | nil => intro z; simp [pairsF]
  | cons b l ih =>
    intro z
    cases k with
    | zero => rfl
    | succ k => simp only [pairsF, List.take_succ_cons, ih]
theorem endF_le (l : List UInt8) : ∀ z, endF z l ≤ z + l.length := by
  induction l with
  | nil => intro z; simp [endF]
  | cons b l ih =>
    intro z
    have h1 := ih (zUp z b)
    have h2 : zUp z b ≤ z + 1 := by unfold zUp; split <;> omega
    simp only [endF, List.length_cons]
    omega
/-- The pair of place k. -/
theorem pairs_snoc (l : List UInt8) (k : Nat) (b : UInt8) (h : l[k]? = some b) : pairsF 0 (l.take (k + 1)) = pairsF 0 (l.take k) ++ [(b, endF 0 (l.take k))] ∧ endF 0 (l.take (k + 1)) = zUp (endF 0 (l.take k)) b := by
  rw [List.take_add_one, h]
  constructor
  · rw [pairsF_append]; rfl
  · rw [endF_append]; rfl

/-- Ends a row of bytes 0, as it is written, with two of them? -/
def pairB (z : Nat) : Bool := decide (0 < z) && (z % 2 == 0)
def outE (p : List (UInt8 × Nat)) : List UInt8 := p.flatMap fun x => if x.1 ≤ 3 ∧ pairB x.2 = true then [3, x.1] else [x.1]
theorem outE_snoc (p : List (UInt8 × Nat)) (x : UInt8 × Nat) : outE (p ++ [x]) = outE p ++ if x.1 ≤ 3 ∧ pairB x.2 = true then [3, x.1] else [x.1] := by simp [outE]
theorem outE_len (p : List (UInt8 × Nat)) : (outE p).length ≤ 2 * p.length := by
  induction p with
  | nil => simp [outE]
  | cons x p ih =>
    have : outE (x :: p) = (if x.1 ≤ 3 ∧ pairB x.2 = true then [3, x.1] else [x.1]) ++ outE p := by simp [outE]
    rw [this, List.length_append, List.length_cons]
    split <;> simp <;> omega
/-- The state of escaping behind a row of z bytes 0. -/
def st2 (z : Nat) : Nat := if z = 0 then 0 else if z % 2 = 1 then 1 else 2
theorem st2_pair (z : Nat) : pairB z = true ↔ st2 z = 2 := by
  unfold pairB st2
  by_cases h : z = 0
  · subst h; simp
  · simp only [h, if_false, Bool.and_eq_true, decide_eq_true_eq, beq_iff_eq]
    split <;> omega
theorem st2_next (z : Nat) (b : UInt8) : st2 (zUp z b) = zNext (st2 z) b := by
  unfold zUp zNext
  by_cases hb : b = 0
  · simp only [hb, if_true]
    unfold st2
    by_cases h : z = 0
    · subst h; simp
    · simp only [h, if_false]
      by_cases h2 : z % 2 = 1
      · simp only [h2, if_true, Nat.succ_ne_zero, if_false]; rw [if_neg (by omega)]; simp
      · simp only [h2, if_false, if_true, Nat.succ_ne_zero]; rw [if_pos (by omega)]
  · simp only [hb, if_false]; rfl
theorem outE_all (l : List UInt8) : ∀ z, outE (pairsF z l) ++ (if pairB (endF z l) = true then [3] else []) = escF (st2 z) l := by
  induction l with
  | nil =>
    intro z
    show [] ++ (if pairB z = true then [3] else []) = if st2 z = 2 then [3] else []
    rw [List.nil_append]
    by_cases h : st2 z = 2
    · rw [if_pos ((st2_pair z).2 h), if_pos h]
    · rw [if_neg (fun e => h ((st2_pair z).1 e)), if_neg h]
  | cons b l ih =>
    intro z
    have e1 : outE (pairsF z (b :: l)) = (if b ≤ 3 ∧ pairB z = true then [3, b] else [b]) ++ outE (pairsF (zUp z b) l) := by simp [outE, pairsF]
    show outE (pairsF z (b :: l)) ++ (if pairB (endF (zUp z b) l) = true then [3] else []) = _
    rw [e1, List.append_assoc, ih, st2_next]
    show _ = if st2 z = 2 ∧ b ≤ 3 then 3 :: b :: escF (zNext (st2 z) b) l else b :: escF (zNext (st2 z) b) l
    by_cases h : st2 z = 2 ∧ b ≤ 3
    · rw [if_pos ⟨h.2, (st2_pair z).2 h.1⟩, if_pos h]; rfl
    · rw [if_neg (fun e => h ⟨(st2_pair z).1 e.2, e.1⟩), if_neg h]; rfl
/-- What the program writes for a string is its escaped form. -/
theorem outE_esc (l : List UInt8) : outE (pairsF 0 l) ++ (if pairB (endF 0 l) = true then [3] else []) = esc l := outE_all l 0

/-- How many bytes 0 a string ends with. -/
theorem endF_trim (l : List UInt8) : endF 0 l = l.length - (Lib.trimRightB l 0).length := by
  have h : ∀ m : List UInt8, endF 0 m.reverse = m.length - (Lib.trimRightB m.reverse 0).length ∧ (Lib.trimRightB m.reverse 0).length ≤ m.length := by
    intro m
    induction m with
    | nil => simp [endF, Lib.trimRightB]
    | cons b m ih =>
      rw [List.reverse_cons, endF_append]
      simp only [endF]
      rw [ih.1]
      unfold Lib.trimRightB at *
      simp only [List.reverse_append, List.reverse_cons, List.reverse_nil, List.nil_append, List.cons_append, List.reverse_reverse, List.length_reverse, List.length_cons] at *
      by_cases hb : b = 0
      · subst hb
        have e0 : List.dropWhile (fun x => x == (0 : UInt8)) (0 :: m) = List.dropWhile (fun x => x == (0 : UInt8)) m := by rw [List.dropWhile_cons]; rfl
        rw [e0]
        simp only [zUp, if_true]
        omega
      · have hb' : (b == 0) = false := by simpa using hb
        simp [zUp, hb, hb']
  have := (h l.reverse).1
  simpa using this

theorem trim_le (l : List UInt8) : (Lib.trimRightB l 0).length ≤ l.length := by
  unfold Lib.trimRightB
  rw [List.length_reverse]
  have := (List.dropWhile_sublist (l := l.reverse) (· == (0 : UInt8))).length_le
  simpa using this

/-- One byte more of what is to be unescaped: what is left, and whether the last byte was removed. -/
def uStep (st : Option (List UInt8 × Bool)) (x : UInt8 × Nat) : Option (List UInt8 × Bool) := match st with
  | none => none
  | some (out, rm) => if (x.1 < 3 ∧ x.2 = 2) ∨ (3 < x.1 ∧ rm = true) then none else if x.1 = 3 ∧ x.2 = 2 then some (out, true) else some (out ++ [x.1], false)
def uRun (p : List (UInt8 × Nat)) : Option (List UInt8 × Bool) := p.foldl uStep (some ([], false))
theorem uRun_snoc (p : List (UInt8 × Nat)) (x : UInt8 × Nat) : uRun (p ++ [x]) = uStep (uRun p) x := by simp [uRun]
theorem uStep_none (p : List (UInt8 × Nat)) : p.foldl uStep none = none := by
  induction p with
  | nil => rfl
  | cons x p ih => exact ih
theorem uRun_none (p q : List (UInt8 × Nat)) (h : uRun p = none) (hq : p <+: q) : uRun q = none := by
  obtain ⟨r, rfl⟩ := hq
  unfold uRun at *
  rw [List.foldl_append, h]
  exact uStep_none r
theorem uStep_len (p : List (UInt8 × Nat)) : ∀ (out : List UInt8) (rm : Bool) (o : List UInt8 × Bool), p.foldl uStep (some (out, rm)) = some o → o.1.length ≤ out.length + p.length := by
  induction p with
  | nil => intro out rm o h; simp at h; subst h; simp
  | cons x p ih =>
    intro out rm o h
    simp only [List.foldl_cons, uStep] at h
    split at h
    · rw [uStep_none] at h; cases h
    · split at h
      · have := ih _ _ _ h; simp only [List.length_cons]; omega
      · have := ih _ _ _ h; simp only [List.length_append, List.length_cons, List.length_nil] at *; omega
theorem uRun_len (p : List (UInt8 × Nat)) (o : List UInt8 × Bool) (h : uRun p = some o) : o.1.length ≤ p.length := by
  have := uStep_len p [] false o h
  simpa using this
/-- Unescaping from a state on: z bytes 0 before, the last byte removed or not. -/
def cu : Nat → Bool → List UInt8 → Option (List UInt8)
  | z, _, [] => if 2 ≤ z then none else some []
  | z, rm, b :: l => if (b < 3 ∧ z = 2) ∨ (3 < b ∧ rm = true) then none else if b = 3 ∧ z = 2 then cu (zUp z b) true l else (cu (zUp z b) false l).map (b :: ·)
theorem cu_run (l : List UInt8) : ∀ (z : Nat) (rm : Bool) (out : List UInt8), (((pairsF z l).foldl uStep (some (out, rm))).bind fun o => if 2 ≤ endF z l then none else some o.1) = (cu z rm l).map (out ++ ·) := by
  induction l with
  | nil =>
    intro z rm out
    show (if 2 ≤ z then none else some out) = Option.map (out ++ ·) (if 2 ≤ z then none else some [])
    by_cases h : 2 ≤ z
    · rw [if_pos h, if_pos h]; rfl
    · rw [if_neg h, if_neg h]; simp
  | cons b l ih =>
    intro z rm out
    show ((pairsF (zUp z b) l).foldl uStep (uStep (some (out, rm)) (b, z))).bind (fun o => if 2 ≤ endF (zUp z b) l then none else some o.1) = Option.map (out ++ ·) (cu z rm (b :: l))
    simp only [cu, uStep]
    by_cases h1 : (b < 3 ∧ z = 2) ∨ (3 < b ∧ rm = true)
    · rw [if_pos h1, if_pos h1, uStep_none]; rfl
    · rw [if_neg h1, if_neg h1]
      by_cases h2 : b = 3 ∧ z = 2
      · rw [if_pos h2, if_pos h2]; exact ih _ _ _
      · rw [if_neg h2, if_neg h2, ih, Option.map_map]
        congr 1
        funext m
        simp
theorem lt3 (b : UInt8) : b < 3 ∨ b = 3 ∨ 3 < b := by
  rw [UInt8.lt_iff_toNat_lt, UInt8.lt_iff_toNat_lt, ← UInt8.toNat_inj]
  show b.toNat < 3 ∨ b.toNat = 3 ∨ 3 < b.toNat
  omega
theorem le3 {b : UInt8} : b ≤ 3 ↔ b < 3 ∨ b = 3 := by
  rw [UInt8.lt_iff_toNat_lt, UInt8.le_iff_toNat_le, ← UInt8.toNat_inj]
  show b.toNat ≤ 3 ↔ b.toNat < 3 ∨ b.toNat = 3
  omega
theorem not_lt3 {b : UInt8} (h : 3 < b) : ¬ b ≤ 3 := by rw [UInt8.not_le]; exact h
theorem cu_iff (s : List UInt8) : (∀ z t, z ≤ 2 → (cu z false s = some t ↔ escF z t = s)) ∧ (∀ t, cu 0 true s = some t ↔ (t = [] ∧ s = []) ∨ ∃ b l, t = b :: l ∧ b ≤ 3 ∧ s = b :: escF (zNext 2 b) l) := by
  induction s with
  | nil =>
    refine ⟨fun z t hz => ?_, fun t => ?_⟩
    · simp only [cu]
      cases t with
      | nil => simp only [escF]; by_cases h : z = 2 <;> simp [h]; omega
      | cons b l => simp only [escF]; constructor
                    · intro h; split at h <;> simp at h
                    · intro h; split at h <;> simp at h
    · simp only [cu]
      constructor
      · intro h; simp at h; exact .inl ⟨h, by trivial⟩
      · rintro (⟨rfl, _⟩ | ⟨b, l, _, _, h⟩)
        · simp
        · cases h
  | cons c s ih =>
    have nx : ∀ b, zNext 2 b = zUp 0 b := by intro b; unfold zNext zUp; simp
    have hz0 : ∀ b, zUp 0 b ≤ 2 := by intro b; unfold zUp; split <;> omega
    refine ⟨fun z t hz => ?_, fun t => ?_⟩
    · simp only [cu]
      by_cases h2 : z = 2
      · subst h2
        rcases lt3 c with hc | hc | hc
        · rw [if_pos (.inl ⟨hc, rfl⟩)]
          refine Iff.intro (fun h => by cases h) (fun h => ?_)
          cases t with
          | nil => simp [escF] at h; rw [← h.1] at hc; exact absurd hc (by decide)
          | cons b l =>
            simp only [escF] at h
            split at h
            · injection h with h _; rw [← h] at hc; exact absurd hc (by decide)
            · rename_i hn; injection h with h _; rw [h] at hn; exact absurd (le3.2 (.inl hc)) (by simpa using hn)
        · subst hc
          rw [if_neg (by simp), if_pos ⟨rfl, rfl⟩]
          have e : zUp 2 3 = 0 := by decide
          rw [e, ih.2]
          constructor
          · rintro (⟨rfl, h⟩ | ⟨b, l, rfl, hb, h⟩)
            · rw [h]; rfl
            · rw [h, escF, if_pos ⟨rfl, hb⟩]
          · intro h
            cases t with
            | nil => simp [escF] at h; exact .inl ⟨rfl, h⟩
            | cons b l =>
              simp only [escF] at h
              split at h
              · rename_i hb; injection h with _ h; exact .inr ⟨b, l, rfl, hb.2, h.symm⟩
              · rename_i hn; injection h with h _; subst h; simp at hn
        · have hn : ¬ c ≤ 3 := not_lt3 hc
          have h3 : c ≠ 3 := fun e => by rw [e] at hc; exact absurd hc (by decide)
          have h0 : c ≠ 0 := fun e => by rw [e] at hc; exact absurd hc (by decide)
          rw [if_neg (fun e => by
            rcases e with e | e
            · exact hn (le3.2 (.inl e.1))
            · cases e.2), if_neg (fun e => h3 e.1)]
          have e : zUp 2 c = 0 := by unfold zUp; simp [h0]
          rw [e, Option.map_eq_some_iff]
          constructor
          · rintro ⟨l, hl, rfl⟩
            have := (ih.1 0 l (by omega)).1 hl
            simp only [escF]
            rw [if_neg (fun e => hn e.2)]
            have e2 : zNext 2 c = 0 := by unfold zNext; simp [h0]
            rw [e2, this]
          · intro h
            cases t with
            | nil => simp [escF] at h; exact absurd h.1.symm h3
            | cons b l =>
              simp only [escF] at h
              split at h
              · injection h with h _; exact absurd h.symm h3
              · injection h with h h'; subst h
                have e2 : zNext 2 b = 0 := by unfold zNext; simp [h0]
                rw [e2] at h'
                exact ⟨l, (ih.1 0 l (by omega)).2 h', rfl⟩
      · rw [if_neg (fun e => by
            rcases e with e | e
            · exact h2 e.2
            · cases e.2), if_neg (fun e => h2 e.2), Option.map_eq_some_iff]
        have e : zUp z c = zNext z c := by unfold zUp zNext; simp [h2]
        have hle : zUp z c ≤ 2 := by rw [e]; exact zNext_le c hz
        constructor
        · rintro ⟨l, hl, rfl⟩
          have := (ih.1 _ l hle).1 hl
          simp only [escF]
          rw [if_neg (fun e => h2 e.1), ← e, this]
        · intro h
          cases t with
          | nil => simp [escF, h2] at h
          | cons b l =>
            simp only [escF] at h
            rw [if_neg (fun e => h2 e.1)] at h
            injection h with h h'; subst h
            rw [← e] at h'
            exact ⟨l, (ih.1 _ l hle).2 h', rfl⟩
    · simp only [cu]
      by_cases hc : c ≤ 3
      · rw [if_neg (fun e => by
            rcases e with e | e
            · exact absurd e.2 (by decide)
            · exact absurd hc (not_lt3 e.1)), if_neg (fun e => absurd e.2 (by decide)), Option.map_eq_some_iff]
        constructor
        · rintro ⟨l, hl, rfl⟩
          exact .inr ⟨c, l, rfl, hc, by rw [nx, (ih.1 _ l (hz0 c)).1 hl]⟩
        · rintro (⟨_, h⟩ | ⟨b, l, rfl, hb, h⟩)
          · cases h
          · injection h with h h'; subst h
            rw [nx] at h'
            exact ⟨l, (ih.1 _ l (hz0 c)).2 h'.symm, rfl⟩
      · have hc' : 3 < c := by
          rcases lt3 c with h | h | h
          · exact absurd (le3.2 (.inl h)) hc
          · exact absurd (le3.2 (.inr h)) hc
          · exact h
        rw [if_pos (.inr ⟨hc', by trivial⟩)]
        refine Iff.intro (fun h => by cases h) ?_
        rintro (⟨_, h⟩ | ⟨b, l, _, hb, h⟩)
        · cases h
        · injection h with h _; subst h; exact absurd hb hc
/-- What the program leaves of a string is the string that was escaped, if there is one. -/
def uEnd (l : List UInt8) : Option (List UInt8) := (uRun (pairsF 0 l)).bind fun o => if 2 ≤ endF 0 l then none else some o.1
theorem uEnd_unesc (l : List UInt8) : uEnd l = unesc l := by
  have h := cu_run l 0 false []
  have h2 : uEnd l = cu 0 false l := by
    unfold uEnd uRun
    rw [h]
    cases cu 0 false l <;> simp
  rw [h2]
  apply Option.ext
  intro t
  rw [(cu_iff l).1 0 t (by omega)]
  exact (unesc_iff l t).symm
end Go.Proofs.YtghdnefaempigaaDoor

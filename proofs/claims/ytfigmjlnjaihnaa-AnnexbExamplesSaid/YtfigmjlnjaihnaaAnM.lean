/- Plain facts on streams of units. -/
import Derived.Test.YtfigmjlnjaihnaaNalM
namespace Go.Proofs.Ytfigmjlnjaihnaa
set_option linter.unusedVariables false

def zerosL (n : Nat) : List UInt8 := List.replicate n 0
/-- A unit may be in a stream. -/
def MayP (u : List UInt8) : Prop := u ≠ [] ∧ u.getLast? ≠ some 0 ∧ ∀ i, ¬ Bad u i
def mayB (u : List UInt8) : Bool := !u.isEmpty && u.getLast? != some 0 && cleanF 0 u
theorem mayB_iff (u : List UInt8) : mayB u = true ↔ MayP u := by
  unfold mayB MayP
  rw [Bool.and_eq_true, Bool.and_eq_true, clean_iff, bne_iff_ne, Bool.not_eq_true', List.isEmpty_eq_false_iff]
  exact ⟨fun h => ⟨h.1.1, h.1.2, h.2⟩, fun h => ⟨⟨h.1, h.2.1⟩, h.2.2⟩⟩
/-- A stream of the units us. -/
def Stream : List (List UInt8) → List UInt8 → Prop
  | [], s => ∃ n, s = zerosL n
  | u :: us, s => ∃ n r, s = zerosL n ++ 0 :: 0 :: 1 :: (u ++ r) ∧ Stream us r
/-- A unit ends ahead of this: bytes 0 and the end, or two bytes 0 and one of at most 2. -/
def three : List UInt8 → Bool
  | a :: b :: x :: _ => a == 0 && b == 0 && decide (x ≤ 2)
  | _ => false
def stopB (l : List UInt8) : Bool := l.all (· == 0) || three l
def unitOf : List UInt8 → List UInt8
  | [] => []
  | b :: l => if stopB (b :: l) = true then [] else b :: unitOf l
def restOf : List UInt8 → List UInt8
  | [] => []
  | b :: l => if stopB (b :: l) = true then b :: l else restOf l
theorem unit_rest (l : List UInt8) : unitOf l ++ restOf l = l := by
  induction l with
  | nil => rfl
  | cons b l ih =>
    unfold unitOf restOf
    split
    · rfl
    · simp [ih]
theorem stop_rest (l : List UInt8) : stopB (restOf l) = true := by
  induction l with
  | nil => rfl
  | cons b l ih =>
    unfold restOf
    split
    · assumption
    · exact ih
theorem rest_le (l : List UInt8) : (restOf l).length ≤ l.length := by
  have := congrArg List.length (unit_rest l)
  rw [List.length_append] at this
  omega
theorem bad_tail {b : UInt8} {v : List UInt8} (h : ∀ i, ¬ Bad (b :: v) i) : ∀ i, ¬ Bad v i := fun i e => h (i + 1) ⟨by simpa using e.1, by simpa using e.2.1, by simpa using e.2.2⟩
theorem last_tail {b : UInt8} {v : List UInt8} (h : (b :: v).getLast? ≠ some 0) : v.getLast? ≠ some 0 := by
  cases v with
  | nil => simp
  | cons c v => rw [List.getLast?_cons_cons] at h; exact h
theorem all_last (v : List UInt8) (hv : v ≠ []) (h : v.all (· == 0) = true) : v.getLast? = some 0 := by
  obtain ⟨x, hx⟩ : ∃ x, v.getLast? = some x := by
    cases e : v.getLast? with
    | none => exact absurd (List.getLast?_eq_none_iff.1 e) hv
    | some x => exact ⟨x, rfl⟩
  rw [hx]
  have := List.all_eq_true.1 h x (List.mem_of_getLast? hx)
  simpa using this
/-- Within a unit that may be, it does not end. -/
theorem no_stop (b : UInt8) (v r : List UInt8) (h1 : (b :: v).getLast? ≠ some 0) (h2 : ∀ i, ¬ Bad (b :: v) i) : stopB (b :: v ++ r) = false := by
  unfold stopB
  rw [Bool.or_eq_false_iff]
  constructor
  · rw [List.all_append, Bool.and_eq_false_iff]
    left
    cases e : (b :: v).all (· == 0) with
    | false => rfl
    | true => exact absurd (all_last _ (by simp) e) h1
  · match v, h1, h2 with
    | [], h1, _ =>
      have hb : b ≠ 0 := by simpa using h1
      cases r with
      | nil => rfl
      | cons c r => cases r with
        | nil => rfl
        | cons d r => simp [three, hb]
    | [c], h1, _ =>
      have hc : c ≠ 0 := by simpa using h1
      cases r with
      | nil => rfl
      | cons d r => simp [three, hc]
    | c :: d :: v, _, h2 =>
      have := h2 0
      simp only [Bad, List.getElem?_cons_zero, Option.some.injEq, List.getElem?_cons_succ, exists_eq_left'] at this
      simp only [List.cons_append, three]
      cases e : (b == 0 && c == 0 && decide (d ≤ 2)) with
      | false => rfl
      | true =>
        simp only [Bool.and_eq_true, beq_iff_eq, decide_eq_true_eq] at e
        exact absurd ⟨e.1.1, e.1.2, e.2⟩ this
theorem unit_at (u r : List UInt8) (h1 : u.getLast? ≠ some 0) (h2 : ∀ i, ¬ Bad u i) (hr : stopB r = true) : unitOf (u ++ r) = u ∧ restOf (u ++ r) = r := by
  induction u with
  | nil =>
    cases r with
    | nil => exact ⟨rfl, rfl⟩
    | cons c r => simp only [List.nil_append, unitOf, restOf]; rw [if_pos hr, if_pos hr]; exact ⟨rfl, rfl⟩
  | cons b v ih =>
    have hn := no_stop b v r h1 h2
    rw [List.cons_append] at hn
    obtain ⟨e1, e2⟩ := ih (last_tail h1) (bad_tail h2)
    simp only [List.cons_append, unitOf, restOf]
    rw [hn]
    simp [e1, e2]
/-- Behind a unit a stream goes on with what ends a unit. -/
theorem stream_stop (us : List (List UInt8)) (s : List UInt8) (h : Stream us s) : stopB s = true := by
  unfold stopB
  cases us with
  | nil =>
    obtain ⟨n, rfl⟩ := h
    rw [Bool.or_eq_true]
    left
    simp [zerosL]
  | cons u us =>
    obtain ⟨n, r, rfl, _⟩ := h
    rw [Bool.or_eq_true]
    right
    match n with
    | 0 => simp [zerosL, three]
    | 1 => simp [zerosL, three, List.replicate]
    | 2 => simp [zerosL, three, List.replicate]
    | n + 3 => simp [zerosL, three, List.replicate_succ]

/-- The units of a stream, if it is one of units that may be. -/
def parseF : Nat → List UInt8 → Option (List (List UInt8))
  | 0, _ => none
  | f + 1, l => match l.dropWhile (· == 0) with
    | [] => some []
    | c :: t => if c = 1 ∧ t.length + 3 ≤ l.length then (if mayB (unitOf t) = true then (parseF f (restOf t)).map (unitOf t :: ·) else none) else none
theorem drop_zeros (n : Nat) (l : List UInt8) : (zerosL n ++ l).dropWhile (· == 0) = l.dropWhile (· == 0) := by
  induction n with
  | zero => rfl
  | succ n ih =>
    have e : zerosL (n + 1) ++ l = 0 :: (zerosL n ++ l) := by simp [zerosL, List.replicate_succ]
    rw [e, List.dropWhile_cons]
    exact ih
theorem zeros_drop (l : List UInt8) : ∃ n, l = zerosL n ++ l.dropWhile (· == 0) := by
  induction l with
  | nil => exact ⟨0, rfl⟩
  | cons b l ih =>
    rw [List.dropWhile_cons]
    by_cases h : b = 0
    · subst h
      obtain ⟨n, hn⟩ := ih
      refine ⟨n + 1, ?_⟩
      have e : zerosL (n + 1) = 0 :: zerosL n := by simp [zerosL, List.replicate_succ]
      rw [e, if_pos (by rfl), List.cons_append, ← hn]
    · rw [if_neg (by simpa using h)]
      exact ⟨0, rfl⟩
theorem zeros_len (n : Nat) : (zerosL n).length = n := by simp [zerosL]
theorem zeros_two (n : Nat) : zerosL (n + 2) = zerosL n ++ [0, 0] := by unfold zerosL; rw [List.replicate_succ', List.replicate_succ', List.append_assoc]; rfl
theorem parse_iff (f : Nat) : ∀ (l : List UInt8) (us : List (List UInt8)), l.length < f → (parseF f l = some us ↔ (∀ u, u ∈ us → MayP u) ∧ Stream us l) := by
  induction f with
  | zero => intro l us h; omega
  | succ f ih =>
    intro l us hf
    obtain ⟨n, hn⟩ := zeros_drop l
    unfold parseF
    cases hd : l.dropWhile (· == 0) with
    | nil =>
      rw [hd, List.append_nil] at hn
      simp only [Option.some.injEq]
      constructor
      · rintro rfl
        exact ⟨fun u hu => by simp at hu, ⟨n, hn⟩⟩
      · rintro ⟨_, hs⟩
        cases us with
        | nil => rfl
        | cons u us =>
          obtain ⟨m, r, e, _⟩ := hs
          rw [e, drop_zeros] at hd
          simp at hd
    | cons c t =>
      rw [hd] at hn
      have hl : l.length = n + (t.length + 1) := by
        have := congrArg List.length hn
        rw [List.length_append, zeros_len, List.length_cons] at this
        exact this
      simp only []
      constructor
      · intro h
        split at h
        · rename_i hc
          obtain ⟨rfl, hlen⟩ := hc
          split at h
          · rename_i hm
            obtain ⟨vs, hv, rfl⟩ := Option.map_eq_some_iff.1 h
            obtain ⟨h1, h2⟩ := (ih (restOf t) vs (by have := rest_le t; omega)).1 hv
            refine ⟨fun u hu => ?_, ?_⟩
            · rcases List.mem_cons.1 hu with rfl | hu
              · exact (mayB_iff _).1 hm
              · exact h1 u hu
            · obtain ⟨m, rfl⟩ : ∃ m, n = m + 2 := ⟨n - 2, by omega⟩
              refine ⟨m, restOf t, ?_, h2⟩
              rw [unit_rest, hn, zeros_two]
              simp
          · cases h
        · cases h
      · rintro ⟨h1, h2⟩
        cases us with
        | nil =>
          obtain ⟨m, e⟩ := h2
          have := drop_zeros m []
          rw [List.append_nil, ← e, hd] at this
          cases this
        | cons u us =>
          obtain ⟨m, r, e, hs⟩ := h2
          have hdr := hd
          rw [e, drop_zeros] at hdr
          have e0 : List.dropWhile (· == 0) ((0 : UInt8) :: 0 :: 1 :: (u ++ r)) = 1 :: (u ++ r) := by simp
          rw [e0] at hdr
          injection hdr with hc ht
          subst ht
          subst hc
          have hmu := h1 u (by simp)
          obtain ⟨e1, e2⟩ := unit_at u r hmu.2.1 hmu.2.2 (stream_stop us r hs)
          have hlen : (u ++ r).length + 3 ≤ l.length := by
            have h9 := congrArg List.length e
            simp only [List.length_append, zeros_len, List.length_cons] at h9 ⊢
            omega
          rw [if_pos ⟨rfl, hlen⟩, e1, if_pos ((mayB_iff u).2 hmu), e2]
          have := (ih r us (by rw [List.length_append] at hlen; omega)).2 ⟨fun v hv => h1 v (by simp [hv]), hs⟩
          rw [this]
          rfl
/-- The units of a string, if it is a stream of units that may be. -/
def parse (l : List UInt8) : Option (List (List UInt8)) := parseF (l.length + 1) l
theorem parse_spec (l : List UInt8) (us : List (List UInt8)) : parse l = some us ↔ (∀ u, u ∈ us → MayP u) ∧ Stream us l := parse_iff _ l us (by omega)
/-- A stream has only one list of units. -/
theorem stream_unique (l : List UInt8) (us vs : List (List UInt8)) (h1 : ∀ u, u ∈ us → MayP u) (h2 : ∀ u, u ∈ vs → MayP u) (a : Stream us l) (b : Stream vs l) : us = vs := by
  have := (parse_spec l us).2 ⟨h1, a⟩
  rw [(parse_spec l vs).2 ⟨h2, b⟩] at this
  exact (Option.some.inj this).symm
end Go.Proofs.Ytfigmjlnjaihnaa

/- Plain: what was written is read; what is read was written. Ahead of it: Plain: lists of reference commands, their bits, what reads and what checks them. -/
import Derived.Test.YtdkmeldcpamnnaaDoorUeB
namespace Go.Proofs.YtdkmeldcpamnnaaDoor
set_option linter.unusedVariables false

/-- How many numbers a command has, and whether there is one with this Op. -/
def hasI (m : Bool) (op : Int) : Int × Bool :=
  if m = true then (if op = 1 ∨ op = 2 ∨ op = 4 ∨ op = 6 then (1, true) else if op = 3 then (2, true) else if op = 5 then (0, true) else (0, false))
  else (1, decide (0 ≤ op ∧ op ≤ 2))
/-- The Op that ends a list. -/
def endN (m : Bool) : Nat := if m = true then 0 else 3
/-- The error of one command. -/
def errI (m : Bool) (x : Int × Int × Int) : Int :=
  if (hasI m x.1).2 = false then 9
  else if ((hasI m x.1).1 < 2 ∧ x.2.2 ≠ 0) ∨ ((hasI m x.1).1 < 1 ∧ x.2.1 ≠ 0) then 2
  else if x.2.1 < 0 ∨ 4294967294 < x.2.1 ∨ x.2.2 < 0 ∨ 4294967294 < x.2.2 then 3 else 0
def firstE (m : Bool) : List (Int × Int × Int) → Int
  | [] => 0
  | x :: l => if errI m x ≠ 0 then errI m x else firstE m l
/-- What checks a list. -/
def checkI (m : Bool) (l : List (Int × Int × Int)) : Int := if 66 < l.length then 6 else firstE m l
/-- The bits of a command, of a list. -/
def modBits (m : Bool) (x : Int × Int × Int) : List Bool :=
  ueBits x.1.toNat ++ ((if decide (0 < (hasI m x.1).1) = true then ueBits x.2.1.toNat else []) ++ (if decide (1 < (hasI m x.1).1) = true then ueBits x.2.2.toNat else []))
def modsB (m : Bool) : List (Int × Int × Int) → List Bool
  | [] => []
  | x :: l => modBits m x ++ modsB m l
def listB (m : Bool) (l : List (Int × Int × Int)) : List Bool := modsB m l ++ ueBits (endN m)
/-- What writes a list: the error, the bits behind it. -/
def putI (m : Bool) (L : List Bool) (l : List (Int × Int × Int)) : Int × List Bool := if checkI m l ≠ 0 then (checkI m l, L) else (0, L ++ listB m l)
/-- A number that a command has, or has not. -/
def numR (s : ByteArray) (q : Nat) (b : Bool) : Int × Int × Nat := if b = true then ((rdUk s q 0).1, (rdUk s q 0).2.1, (rdUk s q 0).2.2) else (0, 0, q)
/-- One element of a list: an error; or the end, or a command, and the place behind it. -/
def stepI (m : Bool) (s : ByteArray) (full : Bool) (q : Nat) : Int × Option (Int × Int × Int) × Nat :=
  if (rdUk s q 0).2.1 ≠ 0 then ((rdUk s q 0).2.1, none, 0)
  else if (rdUk s q 0).1 = endN m then (0, none, (rdUk s q 0).2.2)
  else if (hasI m (rdUk s q 0).1).2 = false then (9, none, 0)
  else if full = true then (6, none, 0)
  else if (numR s (rdUk s q 0).2.2 (decide (0 < (hasI m (rdUk s q 0).1).1))).2.1 ≠ 0 then ((numR s (rdUk s q 0).2.2 (decide (0 < (hasI m (rdUk s q 0).1).1))).2.1, none, 0)
  else if (numR s (numR s (rdUk s q 0).2.2 (decide (0 < (hasI m (rdUk s q 0).1).1))).2.2 (decide (1 < (hasI m (rdUk s q 0).1).1))).2.1 ≠ 0 then ((numR s (numR s (rdUk s q 0).2.2 (decide (0 < (hasI m (rdUk s q 0).1).1))).2.2 (decide (1 < (hasI m (rdUk s q 0).1).1))).2.1, none, 0)
  else (0, some (((rdUk s q 0).1 : Int), (numR s (rdUk s q 0).2.2 (decide (0 < (hasI m (rdUk s q 0).1).1))).1, (numR s (numR s (rdUk s q 0).2.2 (decide (0 < (hasI m (rdUk s q 0).1).1))).2.2 (decide (1 < (hasI m (rdUk s q 0).1).1))).1), (numR s (numR s (rdUk s q 0).2.2 (decide (0 < (hasI m (rdUk s q 0).1).1))).2.2 (decide (1 < (hasI m (rdUk s q 0).1).1))).2.2)
/-- Commands, and then what another reading gives. -/
def joinT (done : List (Int × Int × Int)) (t : List (Int × Int × Int) × Int × Nat) : List (Int × Int × Int) × Int × Nat := if t.2.1 ≠ 0 then ([], t.2.1, 0) else (done ++ t.1, 0, t.2.2)
/-- A list, of which k more commands may be read. -/
def readF (m : Bool) (s : ByteArray) : Nat → Nat → List (Int × Int × Int) × Int × Nat
  | 0, q => match stepI m s true q with
    | (e, _, p) => joinT [] ([], e, p)
  | k + 1, q => match stepI m s false q with
    | (e, none, p) => joinT [] ([], e, p)
    | (e, some x, p) => joinT [x] (readF m s k p)
/-- What reads a list: the list, the error, the place behind it. -/
def readI (m : Bool) (s : ByteArray) (pos : Nat) : List (Int × Int × Int) × Int × Nat := ((readF m s 66 pos).1, (readF m s 66 pos).2.1, if (readF m s 66 pos).2.1 = 0 then (readF m s 66 pos).2.2 else pos)

theorem joinT_nil (t : List (Int × Int × Int) × Int × Nat) (h : t.2.1 ≠ 0 → t = ([], t.2.1, 0)) : joinT [] t = t := by
  unfold joinT
  by_cases e : t.2.1 = 0
  · rw [if_neg (fun x => x e), List.nil_append, ← e]
  · rw [if_pos e, ← h e]
theorem joinT_join (a b : List (Int × Int × Int)) (t : List (Int × Int × Int) × Int × Nat) : joinT a (joinT b t) = joinT (a ++ b) t := by
  unfold joinT
  by_cases e : t.2.1 = 0
  · simp [e, List.append_assoc]
  · simp [e]
theorem hasI_le {m : Bool} {op : Int} (h : (hasI m op).2 = true) : 0 ≤ op ∧ op ≤ 6 ∧ op ≠ (endN m : Nat) ∧ 0 ≤ (hasI m op).1 ∧ (hasI m op).1 ≤ 2 := by
  unfold hasI endN at *
  cases m
  · simp at h ⊢; omega
  · simp only [if_true] at h ⊢
    split at h
    · rename_i c; rw [if_pos c]; simp only [Int.ofNat_zero]; omega
    · rename_i c; rw [if_neg c]
      split at h
      · rename_i c; rw [if_pos c]; simp only [Int.ofNat_zero]; omega
      · rename_i c; rw [if_neg c]
        split at h
        · rename_i c; rw [if_pos c]; simp only [Int.ofNat_zero]; omega
        · cases h
theorem errI_ok {m : Bool} {x : Int × Int × Int} (h : errI m x = 0) : (hasI m x.1).2 = true ∧ ((hasI m x.1).1 < 2 → x.2.2 = 0) ∧ ((hasI m x.1).1 < 1 → x.2.1 = 0) ∧ 0 ≤ x.2.1 ∧ x.2.1 ≤ 4294967294 ∧ 0 ≤ x.2.2 ∧ x.2.2 ≤ 4294967294 := by
  unfold errI at h
  split at h
  · cases h
  · rename_i a
    split at h
    · cases h
    · rename_i b
      split at h
      · cases h
      · rename_i c
        refine ⟨by simpa using a, fun e => ?_, fun e => ?_, by omega, by omega, by omega, by omega⟩
        · exact Classical.byContradiction fun z => b (.inl ⟨e, z⟩)
        · exact Classical.byContradiction fun z => b (.inr ⟨e, z⟩)
theorem errI_of {m : Bool} {x : Int × Int × Int} (h : (hasI m x.1).2 = true) (h1 : (hasI m x.1).1 < 2 → x.2.2 = 0) (h2 : (hasI m x.1).1 < 1 → x.2.1 = 0) (a : 0 ≤ x.2.1) (b : x.2.1 ≤ 4294967294) (c : 0 ≤ x.2.2) (d : x.2.2 ≤ 4294967294) : errI m x = 0 := by
  unfold errI
  rw [if_neg (by rw [h]; simp), if_neg, if_neg (by omega)]
  rintro (⟨e, f⟩ | ⟨e, f⟩)
  · exact f (h1 e)
  · exact f (h2 e)
end Go.Proofs.YtdkmeldcpamnnaaDoor
namespace Go.Proofs.YtdkmeldcpamnnaaDoor
set_option linter.unusedVariables false

theorem numR_of {s : ByteArray} {q : Nat} {b : Bool} {v : Int} (h0 : 0 ≤ v) (h1 : v ≤ 4294967294) (hb : b = false → v = 0) (h : Begins s q (if b = true then ueBits v.toNat else [])) :
    numR s q b = (v, 0, q + (if b = true then ueBits v.toNat else []).length) := by
  unfold numR
  cases b with
  | false => simp [hb rfl]
  | true =>
    simp only [if_true] at h ⊢
    rw [read_ue (by omega) h]
    simp only [Prod.mk.injEq, and_true]
    omega
theorem numR_back {s : ByteArray} {q p : Nat} {b : Bool} {v : Int} (hq : q ≤ 8 * s.size) (h : numR s q b = (v, 0, p)) : 0 ≤ v ∧ v ≤ 4294967294 ∧ (b = false → v = 0) ∧ Begins s q (if b = true then ueBits v.toNat else []) ∧ p = q + (if b = true then ueBits v.toNat else []).length := by
  unfold numR at h
  cases b with
  | false =>
    simp at h
    obtain ⟨h1, h2⟩ := h
    subst h1 h2
    exact ⟨by omega, by omega, fun _ => rfl, ⟨by simpa using hq, fun j hj => by simp at hj⟩, by simp⟩
  | true =>
    simp only [if_true, Prod.mk.injEq] at h
    obtain ⟨h1, h2, h3⟩ := h
    obtain ⟨a, c, d⟩ := ue_back (v := (rdUk s q 0).1) (q := (rdUk s q 0).2.2) hq (by rw [← h2])
    refine ⟨by omega, by omega, (fun e => by cases e), ?_, ?_⟩
    · simp only [if_true]; rw [← h1, Int.toNat_natCast]; exact c
    · simp only [if_true]; rw [← h1, Int.toNat_natCast, ← h3]; exact d
theorem step_end {m : Bool} {s : ByteArray} {full : Bool} {q : Nat} (h : Begins s q (ueBits (endN m))) : stepI m s full q = (0, none, q + (ueBits (endN m)).length) := by
  have r := read_ue (v := endN m) (by unfold endN; split <;> omega) h
  unfold stepI
  rw [r]
  simp
theorem step_mod {m : Bool} {s : ByteArray} {q : Nat} {x : Int × Int × Int} (hx : errI m x = 0) (h : Begins s q (modBits m x)) : stepI m s false q = (0, some x, q + (modBits m x).length) := by
  obtain ⟨h1, h2, h3, a, b, c, d⟩ := errI_ok hx
  obtain ⟨o1, o2, o3, o4, o5⟩ := hasI_le h1
  have hop : ((x.1.toNat : Nat) : Int) = x.1 := by omega
  have b1 := h.left
  have b2 := h.right.left
  have b3 := h.right.right
  have r := read_ue (v := x.1.toNat) (by omega) b1
  have n1 := numR_of (s := s) (q := q + (ueBits x.1.toNat).length) (b := decide (0 < (hasI m x.1).1)) (v := x.2.1) a b (fun e => h3 (by have := of_decide_eq_false e; omega)) b2
  have n2 := numR_of (s := s) (q := q + (ueBits x.1.toNat).length + (if decide (0 < (hasI m x.1).1) = true then ueBits x.2.1.toNat else []).length) (b := decide (1 < (hasI m x.1).1)) (v := x.2.2) c d (fun e => h2 (by have := of_decide_eq_false e; omega)) b3
  have ne : ¬ x.1.toNat = endN m := by omega
  unfold stepI
  rw [r]
  simp only [hop, n1, n2, h1, ne_eq, not_true_eq_false, if_false, Bool.true_eq_false, Bool.false_eq_true, ne]
  unfold modBits
  simp only [List.length_append, Prod.mk.injEq, true_and]
  omega
theorem firstE_cons {m : Bool} {x : Int × Int × Int} {l : List (Int × Int × Int)} (h : firstE m (x :: l) = 0) : errI m x = 0 ∧ firstE m l = 0 := by
  rw [firstE] at h
  by_cases e : errI m x = 0
  · rw [if_neg (fun z => z e)] at h; exact ⟨e, h⟩
  · rw [if_pos e] at h; exact absurd h e
/-- What was written is read. -/
theorem readF_of (m : Bool) (s : ByteArray) : ∀ (l : List (Int × Int × Int)) (k pos : Nat), firstE m l = 0 → l.length ≤ k → Begins s pos (listB m l) → readF m s k pos = (l, 0, pos + (listB m l).length) := by
  intro l
  induction l with
  | nil =>
    intro k pos _ _ h
    have h' : Begins s pos (ueBits (endN m)) := by simpa [listB, modsB] using h
    have e : (listB m []).length = (ueBits (endN m)).length := by simp [listB, modsB]
    rw [e]
    cases k with
    | zero => rw [readF, step_end h']; simp [joinT]
    | succ k => rw [readF, step_end h']; simp [joinT]
  | cons x l ih =>
    intro k pos hv hk h
    obtain ⟨hx, hl⟩ := firstE_cons hv
    cases k with
    | zero => simp at hk
    | succ k =>
      have e : listB m (x :: l) = modBits m x ++ listB m l := by simp [listB, modsB, List.append_assoc]
      rw [e] at h ⊢
      rw [readF, step_mod hx h.left]
      simp only
      rw [ih k _ hl (by simpa using hk) h.right]
      simp [joinT, Nat.add_assoc]
theorem step_back {m : Bool} {s : ByteArray} {q p : Nat} {full : Bool} {o : Option (Int × Int × Int)} (hq : q ≤ 8 * s.size) (h : stepI m s full q = (0, o, p)) :
    (o = none ∧ Begins s q (ueBits (endN m)) ∧ p = q + (ueBits (endN m)).length) ∨ ∃ x, o = some x ∧ full = false ∧ errI m x = 0 ∧ Begins s q (modBits m x) ∧ p = q + (modBits m x).length := by
  unfold stepI at h
  split at h
  · rename_i c
    simp only [Prod.mk.injEq] at h
    exact absurd h.1 c
  · rename_i c
    have c' : (rdUk s q 0).2.1 = 0 := Classical.byContradiction c
    obtain ⟨a1, a2, a3⟩ := ue_back (v := (rdUk s q 0).1) (q := (rdUk s q 0).2.2) hq (by rw [← c'])
    split at h
    · rename_i e
      simp only [Prod.mk.injEq, true_and] at h
      obtain ⟨h1, h2⟩ := h
      rw [e] at a2 a3
      exact .inl ⟨h1.symm, a2, by rw [← h2]; exact a3⟩
    · split at h
      · simp at h
      · rename_i e1
        have e1' : (hasI m (rdUk s q 0).1).2 = true := by simpa using e1
        split at h
        · simp at h
        · rename_i hf
          have hf' : full = false := by simpa using hf
          generalize hA : numR s (rdUk s q 0).2.2 (decide (0 < (hasI m (rdUk s q 0).1).1)) = A at h
          split at h
          · rename_i z
            simp only [Prod.mk.injEq] at h
            exact absurd h.1 z
          · rename_i z
            have z' : A.2.1 = 0 := Classical.byContradiction z
            obtain ⟨Av, Ae, Ap⟩ := A
            simp only at z'
            subst z'
            obtain ⟨b0, b1, b2, b3, b4⟩ := numR_back (by have := a2.1; omega) hA
            generalize hB : numR s (Av, (0 : Int), Ap).2.2 (decide (1 < (hasI m (rdUk s q 0).1).1)) = B at h
            split at h
            · rename_i y
              simp only [Prod.mk.injEq] at h
              exact absurd h.1 y
            · rename_i y
              have y' : B.2.1 = 0 := Classical.byContradiction y
              obtain ⟨Bv, Be, Bp⟩ := B
              simp only at y'
              subst y'
              simp only at hB
              obtain ⟨d0, d1, d2, d3, d4⟩ := numR_back (by have := b3.1; omega) hB
              simp only [Prod.mk.injEq, true_and] at h
              obtain ⟨h1, h2⟩ := h
              obtain ⟨o1, o2, o3, o4, o5⟩ := hasI_le e1'
              refine .inr ⟨_, h1.symm, hf', errI_of e1' (fun e => d2 (by rw [decide_eq_false_iff_not]; simp only at e; omega)) (fun e => b2 (by rw [decide_eq_false_iff_not]; simp only at e; omega)) b0 b1 d0 d1, ?_, ?_⟩
              · unfold modBits
                simp only [Int.toNat_natCast]
                refine a2.join (Begins.join ?_ ?_)
                · rw [← a3]; exact b3
                · rw [← a3, ← b4]; exact d3
              · unfold modBits
                simp only [Int.toNat_natCast, List.length_append]
                omega
/-- What is read was written. -/
theorem readF_back (m : Bool) (s : ByteArray) : ∀ (k : Nat) (l : List (Int × Int × Int)) (pos q : Nat), pos ≤ 8 * s.size → readF m s k pos = (l, 0, q) → firstE m l = 0 ∧ l.length ≤ k ∧ Begins s pos (listB m l) ∧ q = pos + (listB m l).length := by
  intro k
  induction k with
  | zero =>
    intro l pos q hp h
    rw [readF] at h
    generalize hS : stepI m s true pos = S at h
    obtain ⟨e, o, p⟩ := S
    simp only [joinT] at h
    split at h
    · rename_i c; simp only [Prod.mk.injEq] at h; exact absurd h.2.1 c
    · rename_i c
      have c' : e = 0 := Classical.byContradiction c
      subst c'
      simp only [List.append_nil, Prod.mk.injEq, true_and] at h
      obtain ⟨rfl, rfl⟩ := h
      rcases step_back hp hS with ⟨_, a, b⟩ | ⟨x, _, f, _⟩
      · exact ⟨rfl, Nat.le_refl _, by simpa [listB, modsB] using a, by simpa [listB, modsB] using b⟩
      · cases f
  | succ k ih =>
    intro l pos q hp h
    rw [readF] at h
    generalize hS : stepI m s false pos = S at h
    obtain ⟨e, o, p⟩ := S
    cases o with
    | none =>
      simp only [joinT] at h
      split at h
      · rename_i c; simp only [Prod.mk.injEq] at h; exact absurd h.2.1 c
      · rename_i c
        have c' : e = 0 := Classical.byContradiction c
        subst c'
        simp only [List.append_nil, Prod.mk.injEq, true_and] at h
        obtain ⟨rfl, rfl⟩ := h
        rcases step_back hp hS with ⟨_, a, b⟩ | ⟨x, f, _⟩
        · exact ⟨rfl, by simp, by simpa [listB, modsB] using a, by simpa [listB, modsB] using b⟩
        · cases f
    | some x =>
      have he : e = 0 := by
        unfold stepI at hS
        repeat' split at hS
        all_goals first | (cases hS; rfl) | (simp at hS)
      subst he
      rcases step_back hp hS with ⟨f, _⟩ | ⟨x', f, _, hx, hb, hp'⟩
      · cases f
      · cases f
        dsimp only at h
        generalize hT : readF m s k p = T at h
        obtain ⟨tl, te, tq⟩ := T
        simp only [joinT] at h
        split at h
        · rename_i c; simp only [Prod.mk.injEq] at h; exact absurd h.2.1 c
        · rename_i c
          have c' : te = 0 := Classical.byContradiction c
          subst c'
          simp only [Prod.mk.injEq, true_and] at h
          obtain ⟨rfl, rfl⟩ := h
          obtain ⟨i1, i2, i3, i4⟩ := ih tl p tq (by have := hb.1; omega) hT
          have e : listB m (x :: tl) = modBits m x ++ listB m tl := by simp [listB, modsB, List.append_assoc]
          refine ⟨?_, by simpa using i2, ?_, ?_⟩
          · show firstE m (x :: tl) = 0
            rw [firstE, if_neg (fun z => z hx)]; exact i1
          · show Begins s pos (listB m (x :: tl))
            rw [e]; exact hb.join (by rw [← hp']; exact i3)
          · show tq = pos + (listB m (x :: tl)).length
            rw [e, List.length_append]; omega
end Go.Proofs.YtdkmeldcpamnnaaDoor

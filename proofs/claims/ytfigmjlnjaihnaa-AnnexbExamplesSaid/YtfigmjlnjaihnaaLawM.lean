/- Plain facts: what Split and Join answer to each other. -/
import Derived.Test.YtfigmjlnjaihnaaJoM
namespace Go.Proofs.Ytfigmjlnjaihnaa
set_option linter.unusedVariables false

def datas (us : List ByteArray) : List (List UInt8) := us.map (fun x => x.data.toList)
/-- All start codes and units, without bytes 0 beside them. -/
def bare (us : List ByteArray) : Nat := (us.map (fun u => u.size + 3)).sum
theorem zeros_app (m n : Nat) : zerosL m ++ zerosL n = zerosL (m + n) := by unfold zerosL; rw [List.replicate_append_replicate]
theorem stream_zeros (us : List (List UInt8)) (n : Nat) (s : List UInt8) (h : Stream us s) : Stream us (zerosL n ++ s) := by
  cases us with
  | nil => obtain ⟨m, rfl⟩ := h; exact ⟨n + m, zeros_app n m⟩
  | cons u us => obtain ⟨m, r, rfl, hr⟩ := h; exact ⟨n + m, r, by rw [← List.append_assoc, zeros_app], hr⟩
theorem stream_append (us vs : List (List UInt8)) (t : List UInt8) (k : Stream vs t) : ∀ s, Stream us s → Stream (us ++ vs) (s ++ t) := by
  induction us with
  | nil => rintro s ⟨n, rfl⟩; exact stream_zeros vs n t k
  | cons u us ih =>
    rintro s ⟨n, r, rfl, hr⟩
    exact ⟨n, r ++ t, by simp, ih r hr⟩
theorem stream_join (us : List ByteArray) : ∀ b, Stream (datas us) (joinF b us) := by
  induction us with
  | nil => intro b; exact ⟨0, rfl⟩
  | cons u us ih =>
    intro b
    by_cases h : longB (headN u % 32) b = true
    · exact ⟨1, joinF false us, by simp [joinF, piece, h, zerosL], ih false⟩
    · exact ⟨0, joinF false us, by simp [joinF, piece, h, zerosL], ih false⟩
theorem stream_len (us : List ByteArray) : ∀ s, Stream (datas us) s → bare us ≤ s.length := by
  induction us with
  | nil => intro s _; exact Nat.zero_le _
  | cons u us ih =>
    rintro s ⟨n, r, rfl, hr⟩
    have := ih r hr
    have e : u.data.toList.length = u.size := by simp
    simp only [bare, List.map_cons, List.sum_cons, List.length_append, List.length_cons] at *
    omega
theorem join_len (us : List ByteArray) : ∀ b, bare us ≤ (joinF b us).length ∧ (joinF b us).length ≤ bare us + us.length := by
  induction us with
  | nil => intro b; exact ⟨Nat.le_refl _, Nat.le_refl _⟩
  | cons u us ih =>
    intro b
    have := ih false
    have e : u.data.toList.length = u.size := by simp
    by_cases h : longB (headN u % 32) b = true
    all_goals
      simp only [bare, joinF, piece, h, List.map_cons, List.sum_cons, List.length_append, List.length_cons, List.length_nil, if_true] at *
      try simp only [Bool.false_eq_true, if_false, List.length_nil] at *
      omega
theorem mayAll_mem {us : List ByteArray} (h : mayAll us = true) : ∀ v, v ∈ datas us → MayP v := by
  intro v hv
  obtain ⟨u, hu, rfl⟩ := List.mem_map.1 hv
  exact (mayB_iff _).1 (List.all_eq_true.1 h u hu)
theorem mayAll_append (us vs : List ByteArray) : mayAll (us ++ vs) = (mayAll us && mayAll vs) := List.all_append
theorem split_of (us : List ByteArray) (s : ByteArray) (h : mayAll us = true) (k : Stream (datas us) s.data.toList) (h1 : s.size ≤ 16777216) (h2 : us.length ≤ 4096) : splitR s = (us, 0) := by
  have e : parse s.data.toList = some (us.map (fun x => x.data.toList)) := (parse_spec _ _).2 ⟨mayAll_mem h, k⟩
  rw [splitR_some (by omega) us e, if_neg (by omega)]
theorem split_ok {s : ByteArray} {us : List ByteArray} (h : splitR s = (us, 0)) : mayAll us = true ∧ Stream (datas us) s.data.toList ∧ s.size ≤ 16777216 ∧ us.length ≤ 4096 := by
  unfold splitR at h
  by_cases h1 : 16777216 < s.size
  · rw [if_pos h1] at h; cases h
  · rw [if_neg h1] at h
    cases hp : parse s.data.toList with
    | none => rw [hp] at h; cases h
    | some l =>
      rw [hp] at h
      simp only at h
      by_cases h2 : 4096 < l.length
      · rw [if_pos h2] at h; cases h
      · rw [if_neg h2] at h
        injection h with h _
        subst h
        obtain ⟨a, b⟩ := (parse_spec _ _).1 hp
        have e : datas (l.map strOf) = l := by
          unfold datas
          rw [List.map_map]
          conv => rhs; rw [← List.map_id l]
          exact List.map_congr_left (fun x _ => rfl)
        refine ⟨List.all_eq_true.2 (fun u hu => ?_), by rw [e]; exact b, by omega, by rw [List.length_map]; omega⟩
        obtain ⟨x, hx, rfl⟩ := List.mem_map.1 hu
        exact (mayB_iff _).2 (a x hx)
theorem strOf_size (l : List UInt8) : (strOf l).size = l.length := by unfold strOf; simp [ByteArray.size]
theorem join_of (us : List ByteArray) (h : mayAll us = true) (h1 : (joinF true us).length ≤ 16777216) (h2 : us.length ≤ 4096) : joinR us = (strOf (joinF true us), 0) := by
  unfold joinR
  rw [if_neg (by omega), if_pos h, if_neg (by omega)]
theorem join_no (us : List ByteArray) (h : mayAll us = false) (h2 : us.length ≤ 4096) : joinR us = (⟨#[]⟩, 4) := by
  unfold joinR
  rw [if_neg (by omega), if_neg (by rw [h]; simp)]
/-- What is joined is split as it was. -/
theorem back_of (us : List ByteArray) (h : mayAll us = true) (h1 : (joinF true us).length ≤ 16777216) (h2 : us.length ≤ 4096) : splitR (strOf (joinF true us)) = (us, 0) :=
  split_of us _ h (stream_join us true) (by rw [strOf_size]; exact h1) h2
theorem joinF_append (us vs : List ByteArray) : ∀ b, joinF b (us ++ vs) = joinF b us ++ joinF (b && us.isEmpty) vs := by
  induction us with
  | nil => intro b; simp [joinF]
  | cons u us ih => intro b; simp [joinF, ih]
/-- The stream of units that are not the first, but for the byte 0. -/
theorem join_false (u : ByteArray) (us : List ByteArray) : joinF true (u :: us) = if longB (headN u % 32) false = true then joinF false (u :: us) else 0 :: joinF false (u :: us) := by
  have e : longB (headN u % 32) true = true := rfl
  by_cases h : longB (headN u % 32) false = true
  · simp [joinF, piece, h, e]
  · simp [joinF, piece, h, e]
theorem bare_le (us : List ByteArray) (n : Nat) (h : ∀ u, u ∈ us → u.size ≤ n) : bare us ≤ (n + 3) * us.length := by
  induction us with
  | nil => exact Nat.zero_le _
  | cons u us ih =>
    have := ih (fun v hv => h v (by simp [hv]))
    have := h u (by simp)
    simp only [bare, List.map_cons, List.sum_cons, List.length_cons, Nat.mul_add] at *
    omega
end Go.Proofs.Ytfigmjlnjaihnaa

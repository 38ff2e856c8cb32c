/- Plain facts: the units of a stream, place by place. -/
import Derived.Test.YtfigmjlnjaihnaaREnd
namespace Go.Proofs.Ytfigmjlnjaihnaa
set_option linter.unusedVariables false

def strOf (l : List UInt8) : ByteArray := ⟨l.toArray⟩
theorem parseF_any (l : List UInt8) (f g : Nat) (hf : l.length < f) (hg : l.length < g) : parseF f l = parseF g l := by
  cases h : parseF f l with
  | some us => exact ((parse_iff g l us hg).2 ((parse_iff f l us hf).1 h)).symm
  | none =>
    cases k : parseF g l with
    | none => rfl
    | some us => rw [(parse_iff f l us hf).2 ((parse_iff g l us hg).1 k)] at h; cases h
theorem parse_eq (l : List UInt8) : parse l = match l.dropWhile (· == 0) with
    | [] => some []
    | c :: t => if c = 1 ∧ t.length + 3 ≤ l.length then (if mayB (unitOf t) = true then (parse (restOf t)).map (unitOf t :: ·) else none) else none := by
  conv => lhs; unfold parse parseF
  cases l.dropWhile (· == 0) with
  | nil => rfl
  | cons c t =>
    simp only
    split
    · rename_i h
      split
      · rw [parseF_any (restOf t) l.length ((restOf t).length + 1) (by have := rest_le t; omega) (by omega)]
        rfl
      · rfl
    · rfl
theorem rest_drop (t : List UInt8) : restOf t = t.drop (unitOf t).length := by
  conv => rhs; arg 2; rw [← unit_rest t]
  rw [List.drop_left]
theorem unit_take (t : List UInt8) : unitOf t = t.take (unitOf t).length := by
  conv => rhs; arg 2; rw [← unit_rest t]
  rw [List.take_left]
theorem zs_while {s : ByteArray} {i z : Nat} (h : Zs s i z) : (s.data.toList.drop i).dropWhile (· == 0) = (s.data.toList.drop z).dropWhile (· == 0) := by
  rw [h.2.2, drop_zeros]
theorem pa_end {s : ByteArray} {i : Nat} (h : Zs s i s.size) : parse (s.data.toList.drop i) = some [] := by
  rw [parse_eq, zs_while h, dropEnd]; rfl
theorem pa_len (s : ByteArray) (i : Nat) : (s.data.toList.drop i).length = s.size - i := by rw [List.length_drop]; simp
theorem pa_no {s : ByteArray} {i z : Nat} (h : Zs s i z) (hz : z < s.size) (n0 : ¬ s[z] = 0) (hn : z < i + 2 ∨ ¬ s[z] = 1) : parse (s.data.toList.drop i) = none := by
  rw [parse_eq, zs_while h, dropL s z hz, List.dropWhile_cons_of_neg (by simpa using n0)]
  simp only
  rw [if_neg]
  rintro ⟨a, b⟩
  rw [pa_len, pa_len] at b
  rcases hn with e | e
  · have := h.1; omega
  · exact e a
theorem ext_unit (s : ByteArray) (z : Nat) (hz : z ≤ s.size) : (s.extract z (endAt s z)).data.toList = unitOf (s.data.toList.drop z) := by
  rw [unit_take]
  have : (s.extract z (endAt s z)).data.toList = (s.data.toList.drop z).take (endAt s z - z) := by
    simp [ByteArray.data_extract, Array.toList_extract, List.extract_eq_take_drop]
  rw [this]
  unfold endAt
  rw [Nat.add_sub_cancel_left]
theorem pa_one {s : ByteArray} {i z : Nat} (h : Zs s i z) (hz : z < s.size) (e : s[z] = 1) (h2 : i + 2 ≤ z) :
    parse (s.data.toList.drop i) = if mayB (s.extract (z + 1) (endAt s (z + 1))).data.toList = true then (parse (s.data.toList.drop (endAt s (z + 1)))).map ((s.extract (z + 1) (endAt s (z + 1))).data.toList :: ·) else none := by
  rw [parse_eq, zs_while h, dropL s z hz, e, List.dropWhile_cons_of_neg (by simp), ext_unit s (z + 1) hz]
  simp only
  rw [if_pos ⟨trivial, by rw [pa_len, pa_len]; omega⟩, rest_drop, List.drop_drop]
  rfl
/-- What Split answers. -/
def splitR (s : ByteArray) : List ByteArray × Int :=
  if 16777216 < s.size then ([], 6) else match parse s.data.toList with
  | none => ([], 4)
  | some us => if 4096 < us.length then ([], 6) else (us.map strOf, 0)
theorem strOf_data (s : ByteArray) : strOf s.data.toList = s := by unfold strOf; simp
theorem strs_back (l : List ByteArray) : (l.map (fun x => x.data.toList)).map strOf = l := by
  rw [List.map_map]
  conv => rhs; rw [← List.map_id l]
  apply List.map_congr_left
  intro x _
  exact strOf_data x
theorem splitR_long {s : ByteArray} (h : 16777216 < s.size) : splitR s = ([], 6) := if_pos h
theorem splitR_none {s : ByteArray} (h : ¬ 16777216 < s.size) (e : parse s.data.toList = none) : splitR s = ([], 4) := by
  unfold splitR; rw [if_neg h, e]
theorem splitR_some {s : ByteArray} (h : ¬ 16777216 < s.size) (l : List ByteArray) (e : parse s.data.toList = some (l.map (fun x => x.data.toList))) : splitR s = if 4096 < l.length then ([], 6) else (l, 0) := by
  unfold splitR; rw [if_neg h, e]
  simp only
  rw [List.length_map, strs_back]
/-- Split at the place i, with what it has collected. -/
def At (s : ByteArray) (i : Nat) (out : List ByteArray) : Prop := parse s.data.toList = (parse (s.data.toList.drop i)).map (out.map (fun x => x.data.toList) ++ ·)
theorem At.zero (s : ByteArray) : At s 0 [] := by
  unfold At
  rw [List.drop_zero]
  cases parse s.data.toList <;> rfl
theorem At.none {s : ByteArray} {i : Nat} {out : List ByteArray} (h : At s i out) (e : parse (s.data.toList.drop i) = Option.none) : parse s.data.toList = Option.none := by
  unfold At at h; rw [h, e]; rfl
theorem At.ends {s : ByteArray} {i : Nat} {out : List ByteArray} (h : At s i out) (e : parse (s.data.toList.drop i) = some []) : parse s.data.toList = some (out.map (fun x => x.data.toList)) := by
  unfold At at h; rw [h, e]; simp
theorem At.next {s : ByteArray} {i k : Nat} {out : List ByteArray} {u : ByteArray} (h : At s i out) (e : parse (s.data.toList.drop i) = (parse (s.data.toList.drop k)).map (u.data.toList :: ·)) : At s k (out ++ [u]) := by
  unfold At at h ⊢
  rw [h, e]
  cases parse (s.data.toList.drop k) <;> simp
end Go.Proofs.Ytfigmjlnjaihnaa

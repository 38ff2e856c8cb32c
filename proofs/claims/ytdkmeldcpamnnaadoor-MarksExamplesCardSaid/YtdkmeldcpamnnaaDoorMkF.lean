/- Plain: what the laws say of reading and writing, in one piece. -/
import Derived.Test.YtdkmeldcpamnnaaDoorMkT
namespace Go.Proofs.YtdkmeldcpamnnaaDoor
set_option linter.unusedVariables false

theorem chars_append (a b : List Bool) : chars a ++ chars b = chars (a ++ b) := by
  apply ByteArray.ext
  simp [chars, ByteArray.data_append]
theorem bitAt_left (s t : ByteArray) (i : Nat) (h : i < 8 * s.size) : bitAt (s ++ t) i = bitAt s i := by
  unfold bitAt
  have e : (s ++ t).data = s.data ++ t.data := by simp
  have hi : i / 8 < s.data.size := by show i / 8 < s.size; omega
  rw [e, Array.getD_eq_getD_getElem?, Array.getElem?_append_left hi, ← Array.getD_eq_getD_getElem?]
theorem begins_left {s : ByteArray} {p : Nat} {l : List Bool} (h : Begins s p l) (t : ByteArray) : Begins (s ++ t) p l := by
  have hz : (s ++ t).size = s.size + t.size := ByteArray.size_append
  refine ⟨by have := h.1; omega, fun j hj => ?_⟩
  rw [bitAt_left s t (p + j) (by have := h.1; omega)]
  exact h.2 j hj
theorem begins_mid (p l : List Bool) (t : ByteArray) : Begins (pack (p ++ l) ++ t) p.length l := by
  have h := begins_pack l p []
  rw [List.append_nil] at h
  exact begins_left h t
theorem checkI_firstE {m : Bool} {l : List (Int × Int × Int)} (h : checkI m l = 0) : firstE m l = 0 ∧ l.length ≤ 66 := by
  unfold checkI at h
  split at h
  · cases h
  · exact ⟨h, by omega⟩
theorem checkI_of {m : Bool} {l : List (Int × Int × Int)} (h : firstE m l = 0) (hl : l.length ≤ 66) : checkI m l = 0 := by
  unfold checkI
  rw [if_neg (by omega)]
  exact h
theorem readI_of {m : Bool} {s : ByteArray} {p : Nat} {l : List (Int × Int × Int)} (h : checkI m l = 0) (hb : Begins s p (listB m l)) : readI m s p = (l, 0, p + (listB m l).length) := by
  obtain ⟨h1, h2⟩ := checkI_firstE h
  have := readF_of m s l 66 p h1 h2 hb
  unfold readI
  rw [this]
  rfl
theorem oks_err {m : Bool} {l : List (Int × Int × Int)} (h : firstE m l = 0) : OksM l := fun j x hx => by
  obtain ⟨h1, _, _, a, b, c, d⟩ := errI_ok (firstE_at h j x hx)
  obtain ⟨o1, o2, _⟩ := hasI_le h1
  exact ⟨by omega, by omega, by omega⟩
theorem readI_back {m : Bool} {s : ByteArray} {p q : Nat} {l : List (Int × Int × Int)} (hp : p ≤ 8 * s.size) (h : readI m s p = (l, 0, q)) : checkI m l = 0 ∧ OksM l ∧ Begins s p (listB m l) ∧ q = p + (listB m l).length := by
  unfold readI at h
  generalize hT : readF m s 66 p = T at h
  obtain ⟨l', e, q'⟩ := T
  simp only [Prod.mk.injEq] at h
  obtain ⟨rfl, rfl, h3⟩ := h
  rw [if_pos rfl] at h3
  subst h3
  obtain ⟨a, b, c, d⟩ := readF_back m s 66 l' p q' hp hT
  exact ⟨checkI_of a b, oks_err a, c, d⟩
theorem readI_no {m : Bool} {s : ByteArray} {p q : Nat} {e : Int} {l : List (Int × Int × Int)} (h : readI m s p = (l, e, q)) (he : e ≠ 0) : l = [] ∧ q = p := by
  have hj := joinT_readF m s 66 p
  unfold readI at h
  generalize hT : readF m s 66 p = T at *
  obtain ⟨l', e', q'⟩ := T
  simp only [Prod.mk.injEq] at h
  obtain ⟨rfl, rfl, h3⟩ := h
  rw [if_neg he] at h3
  unfold joinT at hj
  dsimp only at hj
  rw [if_pos he] at hj
  cases hj
  exact ⟨rfl, h3.symm⟩
theorem listB_pos (m : Bool) (l : List (Int × Int × Int)) : 0 < (listB m l).length := by
  unfold listB
  rw [List.length_append, length_ueBits]
  have := (bitLen_mid (endN m + 1) (by omega) (by unfold endN; split <;> decide)).1
  omega
theorem listB_le {m : Bool} {l : List (Int × Int × Int)} (h : checkI m l = 0) : (listB m l).length ≤ 20000 := by
  obtain ⟨h1, h2⟩ := checkI_firstE h
  have := modsB_le (firstE_at h1)
  have u := ueBits_le (endN m) (by unfold endN; split <;> decide)
  unfold listB
  rw [List.length_append]
  omega
theorem chars_extract (a : List Bool) (n : Nat) : (chars a).extract 0 n = chars (a.take n) := by
  apply ByteArray.ext
  unfold chars
  simp [ByteArray.data_extract]
/-- The bits of no list begin those of another one. -/
theorem listB_prefix {m : Bool} {a c : List (Int × Int × Int)} (ha : checkI m a = 0) (hc : checkI m c = 0) (r : List Bool) (h : listB m c = listB m a ++ r) : a = c := by
  have h1 : Begins (pack (listB m c)) 0 (listB m c) := by have := begins_pack (listB m c) [] []; simpa using this
  have h2 : Begins (pack (listB m c)) 0 (listB m a) := by have := begins_pack (listB m a) [] r; rw [h]; simpa using this
  have e1 := readI_of hc h1
  have e2 := readI_of ha h2
  rw [e1] at e2
  exact ((Prod.mk.injEq _ _ _ _).mp e2).1.symm
theorem listB_apart {m : Bool} {a c : List (Int × Int × Int)} (ha : checkI m a = 0) (hc : checkI m c = 0) (k : Nat) (hk : k = min (listB m a).length (listB m c).length) : (listB m a).take k = (listB m c).take k ↔ a = c := by
  constructor
  · intro h
    by_cases hl : (listB m a).length ≤ (listB m c).length
    · have e : k = (listB m a).length := by omega
      rw [e, List.take_length] at h
      exact listB_prefix ha hc ((listB m c).drop (listB m a).length) (by
        have := (List.take_append_drop (listB m a).length (listB m c)).symm
        rwa [← h] at this)
    · have e : k = (listB m c).length := by omega
      rw [e, List.take_length] at h
      exact (listB_prefix hc ha ((listB m a).drop (listB m c).length) (by
        have := (List.take_append_drop (listB m c).length (listB m a)).symm
        rwa [h] at this)).symm
  · rintro rfl; rfl
theorem modsB_take {m : Bool} (a : List (Int × Int × Int)) (k : Nat) : (listB m a).take (modsB m (a.take k)).length = modsB m (a.take k) ∧ (modsB m (a.take k)).length ≤ (listB m a).length := by
  have e : modsB m a = modsB m (a.take k) ++ modsB m (a.drop k) := by rw [← modsB_append, List.take_append_drop]
  unfold listB
  rw [e, List.append_assoc]
  exact ⟨by simp, by simp⟩
theorem checkI_sub {m : Bool} {l t : List (Int × Int × Int)} (h : ∀ x, x ∈ t → x ∈ l) (hl : ∀ x, x ∈ l → errI m x = 0) (ht : t.length ≤ 66) : checkI m t = 0 :=
  checkI_of (firstE_of fun j x hx => hl x (h x (List.mem_of_getElem? hx))) ht
theorem errI_mem {m : Bool} {l : List (Int × Int × Int)} (h : checkI m l = 0) : ∀ x, x ∈ l → errI m x = 0 := fun x hx => by
  obtain ⟨j, hj⟩ := List.getElem?_of_mem hx
  exact firstE_at (checkI_firstE h).1 j x hj
def preL : List Bool := [true, false, true, true, false, true, false, true, true]
theorem pre_take : ∀ k : Fin 10, (ByteArray.mk #[49, 48, 49, 49, 48, 49, 48, 49, 49]).extract 0 k.val = chars (preL.take k.val) := by decide +kernel
end Go.Proofs.YtdkmeldcpamnnaaDoor

/- Plain facts: the canonical stream. -/
import Derived.Test.YtfigmjlnjaihnaaSpM
import Derived.Test.YtfigmjlnjaihnaaSs
import Derived.Lib.AppendStr
import Derived.Deep.RegionHeldLaw
namespace Go.Proofs.Ytfigmjlnjaihnaa
open Go.RowKit
set_option linter.unusedVariables false

/-- Whether a byte 0 is before the start code. -/
def longB (k : Int) (first : Bool) : Bool := first || k == 7 || k == 8
def headN (u : ByteArray) : Int := ((u.data.toList.headD 0).toNat : Int)
def piece (first : Bool) (u : ByteArray) : List UInt8 := (if longB (headN u % 32) first = true then [0] else []) ++ ([0, 0, 1] ++ u.data.toList)
def joinF : Bool → List ByteArray → List UInt8
  | _, [] => []
  | b, u :: us => piece b u ++ joinF false us
theorem joinF_snoc (l : List ByteArray) (u : ByteArray) : ∀ b, joinF b (l ++ [u]) = joinF b l ++ piece (b && l.isEmpty) u := by
  induction l with
  | nil => intro b; simp [joinF]
  | cons v l ih => intro b; simp [joinF, ih]
theorem joinF_take (l : List ByteArray) : ∀ b j, (joinF b (l.take j)).length ≤ (joinF b l).length := by
  induction l with
  | nil => intro b j; simp [joinF]
  | cons v l ih =>
    intro b j
    cases j with
    | zero => simp [joinF]
    | succ j =>
      rw [List.take_succ_cons]
      simp only [joinF, List.length_append]
      have := ih false j
      omega
def mayAll (l : List ByteArray) : Bool := l.all (fun u => mayB u.data.toList)
/-- What Join answers. -/
def joinR (l : List ByteArray) : ByteArray × Int :=
  if 4096 < l.length then (⟨#[]⟩, 6) else if mayAll l = true then (if 16777216 < (joinF true l).length then (⟨#[]⟩, 6) else (strOf (joinF true l), 0)) else (⟨#[]⟩, 4)
theorem head_get (u : ByteArray) (h : 0 < u.size) : headN u = (u[0].toNat : Int) := by
  unfold headN
  have := getL u 0 h
  cases hd : u.data.toList with
  | nil => rw [hd] at this; cases this
  | cons a l => rw [hd] at this; simp at this; simp [this]
theorem may_size (u : ByteArray) (h : mayB u.data.toList = true) : 0 < u.size := by
  rcases Nat.eq_zero_or_pos u.size with e | e
  · rw [mayB_empty u e] at h; cases h
  · exact e
theorem mayAll_at {l : List ByteArray} {j : Nat} {u : ByteArray} (h : mayAll l = true) (hu : l[j]? = some u) : mayB u.data.toList = true :=
  List.all_eq_true.1 h u (List.mem_of_getElem? hu)
theorem mayAll_no {l : List ByteArray} {j : Nat} {u : ByteArray} (hu : l[j]? = some u) (h : mayB u.data.toList = false) : mayAll l = false := by
  cases e : mayAll l with
  | false => rfl
  | true => rw [mayAll_at e hu] at h; cases h
theorem mayAll_take {l : List ByteArray} {j : Nat} {u : ByteArray} (h : mayAll (l.take j) = true) (hu : l[j]? = some u) (hm : mayB u.data.toList = true) : mayAll (l.take (j + 1)) = true := by
  obtain ⟨hj, rfl⟩ := List.getElem?_eq_some_iff.1 hu
  rw [List.take_succ_eq_append_getElem hj]
  unfold mayAll at h ⊢
  rw [List.all_append, h]
  simpa using hm
/-- Bytes and a string behind them. -/
theorem append_text (B : Nat) (w : World) (ty : TypeId) (sv : Value) (bs : List UInt8) (hr : Row w sv bs) (hf : ∀ g, g ∈ ownOf sv → B ≤ g) (hB : B ≤ w.heap.size) (s : ByteArray) (hl : bs.length + s.size ≤ 140737488355328) :
    ∃ sv' w', (Builtin.append_ #[36, 9] ty #[sv, .string s]).run Try.prog w = .ok sv' w' ∧ Row w' sv' (bs ++ s.data.toList) ∧ Only (ownOf sv) w w' ∧ ∀ g, g ∈ ownOf sv' → B ≤ g := by
  obtain ⟨i0, hi0, hz0, hs0, hb0⟩ := info_parts info_u8
  have hrB : w.ownsRow B 5 1 sv bs.length (bs.map byteV) := by
    refine ⟨hr.1, ?_⟩
    rcases hr.2 with h | ⟨g, cap, cur, rfl, _, r⟩
    · exact .inl h
    · exact .inr ⟨g, cap, cur, rfl, hf g (by simp [ownOf, Value.ownBlock]), r⟩
  obtain ⟨v', w', h1, h2, h3, _⟩ := Lib.run_append_own_string (P := Try.prog) w B 36 9 ty 5 i0 und_bytes und_str hi0 hz0 hs0 hb0 sv bs.length (bs.map byteV) hrB s (by unfold maxLen; omega) hl hB
  refine ⟨v', w', h1, ?_, grown_only h3, fun g hg => ?_⟩
  · unfold Row
    rw [List.length_append, List.map_append, show s.data.toList.length = s.size from by simp]
    refine ⟨h2.1, ?_⟩
    rcases h2.2 with h | ⟨g, cap, cur, rfl, _, r⟩
    · exact .inl h
    · exact .inr ⟨g, cap, cur, rfl, Nat.zero_le _, r⟩
  · rcases h2.2 with ⟨rfl, _⟩ | ⟨g', cap, cur, rfl, hb, _⟩
    · simp [ownOf, Value.ownBlock] at hg
    · simp [ownOf, Value.ownBlock] at hg; omega
/-- An append as a step of a region that draws, by what it does. -/
theorem step_append_eq {P : Program} {ops : Array Oper} {o : Oper} {a : Act} {w : World} {K : Act → World → Prop} {Q : Exit → Act → World → Prop} {E : Prop}
    (hg : o.guard = none) (s x : Operand) (t1 t2 : TypeId) (hop : o.op = Op.call { callee := Callee.builtin Builtin.append, args := #[s, x], argTypes := #[t1, t2] })
    (v xv : Value) (hs : a.eval s = v) (hx : a.eval x = xv) (v' : Value) (w' : World) (hrun : (Builtin.append_ #[t1, t2] o.type #[v, xv]).run P w = .ok v' w')
    (hK : K (a.put o.dst v') w') : if Region.wanted o (yielded ops a.tmps) = true then Oper.wp P o a w K Q else E := by
  have hw : Region.wanted o (yielded ops a.tmps) = true := by simp [Region.wanted, hg]
  rw [if_pos hw]
  unfold Oper.wp
  simp [execOp, hop, resolve, invoke, builtin, hs, hx, hrun, Result.andThen]
  exact hK
set_option maxHeartbeats 1000000 in
theorem rlong_any (k : Int) (first : Bool) (w : World) (h0 : 0 ≤ k) (h1 : k ≤ 255) : Calls Try.prog 19 #[.int .u8 k, .bool first] w fun e w' => e = .returned (.bool (longB k first)) ∧ w' = w := by
  cases first with
  | true =>
    go_enter Try.func19, Try.ntmps19
    go_wp2_with fail
    go_ret
    exact ⟨rfl, rfl⟩
  | false =>
    by_cases h7 : k = 7
    · subst h7
      go_enter Try.func19, Try.ntmps19
      go_wp2_with fail
      go_ret
      exact ⟨rfl, rfl⟩
    · have b7 : (k == 7) = false := by rw [beq_eq_false_iff_ne]; exact h7
      have E : longB k false = (k == 8) := by unfold longB; rw [b7]; rfl
      rw [E]
      clear E h7
      go_enter Try.func19, Try.ntmps19
      go_wp2_with fail
      go_ret
      exact ⟨rfl, rfl⟩
end Go.Proofs.Ytfigmjlnjaihnaa

/- The program's iterator: what follows each start code of a string. -/
import Derived.RangeFuncNested
import Derived.RangeFuncBound
import Derived.RangeFuncCalls
import Derived.RangeFuncLeaves
import Derived.RangeFuncBox
import Derived.Shelf.Abstract
import Derived.Shelf.RegionOpen
import Derived.WalkKit
import Derived.OwnWalkIn
import Derived.TacticsInMore
import Derived.LoopNIn
import Derived.LoopIn
import Derived.Test.YtfigmjlnjaihnaaUb
namespace Go.Proofs.Ytfigmjlnjaihnaa
open Go.RowKit Go.Shelf
set_option linter.unusedVariables false
attribute [local go_sem] Oper.semAt_some

/-- Block B is as it was. -/
def KeepB (B : Nat) (w w' : World) : Prop := w'.heap[B]? = w.heap[B]?
theorem keepsB_t {B : Nat} {X Y Z : World} (h : KeepB B X Y) (k : KeepB B Y Z) : KeepB B X Z := Eq.trans k h
theorem keepsB_b {B : Nat} {w : World} (hB : B < w.heap.size) (W : World) (l : Nat) (o o' : Obj) (hl : w.heap.size ≤ l) (h : W.heap[l]? = some o) (_ : o.isCells = false) (_ : o.isWalk = false) : KeepB B W (W.putObj l o') :=
  World.putObj_heap_other (by omega)
theorem MaxL.keep {w w' : World} (h : MaxL w) (k : KeepB 0 w w') : MaxL w' := by
  obtain ⟨m, hm⟩ := h
  refine ⟨m, ?_⟩
  unfold World.cell? at hm ⊢
  simp only at hm ⊢
  rw [show w'.heap[0]? = w.heap[0]? from k]
  exact hm
theorem AbidesFrom.drewN {β : Type} {B : Nat} {J : β → World → Prop} (h : AbidesFrom B J) {s : β} {W : World} (hs : J s W) (n : Nat) : J s (W.drewN n) :=
  h s W (W.drewN n) none hs ⟨rfl, rfl, rfl, Nat.le_refl _, fun _ _ _ => rfl⟩ (fun r e => by cases e)

/-- What follows a start code. -/
abbrev Rst := { x : List UInt8 // x.length ≤ 16777216 }
def strs (ys : List Rst) : List (List UInt8) := ys.map (·.1)
theorem rests_len (l : List UInt8) : (rests l).length ≤ l.length := by
  induction l with
  | nil => simp [rests]
  | cons b l ih =>
    rw [rests]
    split <;> simp <;> omega
theorem rests_tail {l r : List UInt8} {t : List (List UInt8)} (h : rests l = r :: t) : t = rests r ∧ r.length ≤ l.length := by
  rcases sc_split l with ⟨h1, _, _⟩ | ⟨r', h1, h2⟩
  · rw [h1] at h; cases h
  · rw [h2] at h
    injection h with e1 e2
    subst e1
    refine ⟨e2.symm, ?_⟩
    conv => rhs; rw [h1]
    simp
    omega
theorem cut_no (s : ByteArray) (w : World) (hM : MaxL w) (hs : s.size ≤ 100000000) (h : rests s.data.toList = []) :
    Calls Try.prog 34 #[.string s, .string ⟨#[0, 0, 1]⟩] w fun e w' => e = .returned (.tuple #[.string s, .string ⟨#[]⟩, .bool false]) ∧ ∃ n, w' = w.drewN n := by
  have C := cut_any s ⟨#[0, 0, 1]⟩ w hM hs
  rw [show (⟨#[0, 0, 1]⟩ : ByteArray).data.toList = [0, 0, 1] from rfl, cut_miss _ h] at C
  exact C
theorem cut_yes (s : ByteArray) (w : World) (hM : MaxL w) (hs : s.size ≤ 100000000) (r : List UInt8) (t : List (List UInt8)) (h : rests s.data.toList = r :: t) :
    Calls Try.prog 34 #[.string s, .string ⟨#[0, 0, 1]⟩] w fun e w' => e = .returned (.tuple #[.string (strOf (beforeSc s.data.toList)), .string (strOf r), .bool true]) ∧ ∃ n, w' = w.drewN n := by
  have C := cut_any s ⟨#[0, 0, 1]⟩ w hM hs
  rw [show (⟨#[0, 0, 1]⟩ : ByteArray).data.toList = [0, 0, 1] from rfl, (cut_hit _ r t h).1] at C
  exact C
theorem strOf_list (l : List UInt8) : (strOf l).data.toList = l := by simp [strOf]
theorem strOf_size (l : List UInt8) : (strOf l).size = l.length := by simp [strOf, ByteArray.size]
/-- How many rounds are left. -/
def left (v f : Value) : Nat := match v, f with
  | .string s, .bool true => (rests s.data.toList).length + 1
  | _, _ => 0
theorem left_yes (l : List UInt8) : left (.string (strOf l)) (.bool true) = (rests l).length + 1 := by
  show (rests (strOf l).data.toList).length + 1 = _
  rw [strOf_list]
/-- Between two rounds: what has come, and what is left. -/
def ItI (s : ByteArray) (J : List Rst → World → Prop) (v f : Value) (wr : World) : Prop :=
  ∃ pre : List Rst, J pre wr ∧ MaxL wr ∧ ((rests s.data.toList = strs pre ∧ f = .bool false) ∨ ∃ r : Rst, rests s.data.toList = strs pre ++ r.1 :: rests r.1 ∧ v = .string (strOf r.1) ∧ f = .bool true)
theorem strs_snoc (pre : List Rst) (x : Rst) : strs (pre ++ [x]) = strs pre ++ [x.1] := by simp [strs]

set_option maxRecDepth 100000 in
set_option maxHeartbeats 2000000 in
theorem it1_in (n : Nat) (hn : 1 ≤ n) (l Bx : Nat) (s : ByteArray) (hs : s.size ≤ 16777216) (J Jx : List Rst → World → Prop)
    (Bj : Nat) (hJ : AbidesFrom Bj J) (hJx : AbidesFrom Bj Jx)
    (hY : ∀ pre x W, J pre W → pre.length < s.size → YieldAt Fence.wide (n - 1) Try.prog l #[.string (strOf x.1)] W fun e W' =>
      (e = .returned (.bool true) ∧ J (pre ++ [x]) W' ∧ KeepB 0 W W') ∨ (e = .returned (.bool false) ∧ Jx (pre ++ [x]) W'))
    (W : World) (hB : W.heap[Bx]? = some (.cells #[.string s] 9)) (hM : MaxL W) (h0 : J [] W) :
    CallsIn Fence.wide n Try.prog 33 #[.func (.yield l) #[] #[], .pointer (some ⟨Bx, 0, none⟩)] W fun e W' => (∃ v, e = .returned v) ∧
      ((∃ ys, strs ys = rests s.data.toList ∧ J ys W') ∨ (∃ pre, strs pre <+: rests s.data.toList ∧ Jx pre W')) := by
  have hs1 : s.size ≤ 100000000 := by omega
  refine callsIn_of_wp Try.func33 rfl trivial ?_ rfl
  simp only [Try.ntmps33, List.size_toArray, List.length_cons, List.length_nil, Nat.reduceAdd, Nat.reduceSub, Array.replicate_succ, Array.replicate_zero, List.push_toArray, List.append_toArray, List.nil_append, List.cons_append]
  have hc0 : W.cell? ⟨Bx, 0, none⟩ = some (.string s) := by unfold World.cell?; rw [hB]; rfl
  have start : ∃ v1 v2 v3 : Value, (Calls Try.prog 34 #[.string s, .string ⟨#[0, 0, 1]⟩] W fun e w' => e = .returned (.tuple #[v1, v2, v3]) ∧ ∃ n, w' = W.drewN n) ∧ ∀ n, ItI s J v2 v3 (W.drewN n) := by
    cases hr : rests s.data.toList with
    | nil => exact ⟨_, _, _, cut_no s W hM hs1 hr, fun n => ⟨[], AbidesFrom.drewN hJ h0 n, hM.drewN n, .inl ⟨hr, rfl⟩⟩⟩
    | cons r t =>
      obtain ⟨e1, e2⟩ := rests_tail hr
      have e : s.data.toList.length = s.size := by simp
      exact ⟨_, _, _, cut_yes s W hM hs1 r t hr, fun n => ⟨[], AbidesFrom.drewN hJ h0 n, hM.drewN n, .inr ⟨⟨r, by omega⟩, by rw [hr, e1]; rfl, rfl, rfl⟩⟩⟩
  obtain ⟨v1, v2, v3, CC, SI⟩ := start
  have SI := hid SI
  gi_wp2_with (refine ⟨trivial, ?_⟩; gi_at_call 34; refine (callsIn_wide.2 CC).mono ?_; rintro e w' ⟨rfl, n0, rfl⟩)
  have S0 := hid (SI.out n0)
  generalize hw1 : W.drewN n0 = W1 at *
  clear hw1 CC SI
  gi_wp2
  gi_loopw [4, 5] (fun v f wr => ItI s J v f wr) (fun v f _ => left v f)
  case atStart => exact S0.out
  case round =>
    obtain ⟨pre, hJs, hMr, hh⟩ := hrel
    rcases hh with ⟨h1, rfl⟩ | ⟨r, h1, rfl, rfl⟩
    · have H1 := hid h1
      clear h1
      gi_wp2
      refine ⟨fun _ h => (by cases h), ?_⟩
      gi_wp2
      go_end0
      exact ⟨⟨_, rfl⟩, .inl ⟨pre, H1.out.symm, hJs⟩⟩
    · have hlen : pre.length < s.size := by
        have a := rests_len s.data.toList
        rw [h1] at a
        have e : s.data.toList.length = s.size := by simp
        simp [strs] at a
        omega
      obtain ⟨fn, tmps, assign, body, hy, hR⟩ := hY pre r wr hJs hlen
      have H1 := hid h1
      clear h1
      gi_wp2
      refine hR.mono ?_
      rintro e W3 (⟨rfl, hJ3, hk3⟩ | ⟨rfl, hJx3⟩)
      · have hM3 := hMr.keep hk3
        have next : ∃ v1 v2 v3 : Value, (Calls Try.prog 34 #[.string (strOf r.1), .string ⟨#[0, 0, 1]⟩] W3 fun e w' => e = .returned (.tuple #[v1, v2, v3]) ∧ ∃ n, w' = W3.drewN n) ∧ (∀ n, ItI s J v2 v3 (W3.drewN n)) ∧ left v2 v3 < left (.string (strOf r.1)) (.bool true) := by
          have hz : (strOf r.1).size ≤ 100000000 := by have := r.2; rw [strOf_size]; omega
          have hl : left (.string (strOf r.1)) (.bool true) = (rests r.1).length + 1 := left_yes _
          rw [hl]
          cases hr : rests r.1 with
          | nil => exact ⟨_, _, _, cut_no _ W3 hM3 hz (by rw [strOf_list]; exact hr), fun n => ⟨pre ++ [r], AbidesFrom.drewN hJ hJ3 n, hM3.drewN n, .inl ⟨by rw [strs_snoc, H1.out, hr], rfl⟩⟩, by show 0 < _; omega⟩
          | cons r2 t =>
            obtain ⟨e1, e2⟩ := rests_tail hr
            refine ⟨_, _, _, cut_yes _ W3 hM3 hz r2 t (by rw [strOf_list]; exact hr), fun n => ⟨pre ++ [r], AbidesFrom.drewN hJ hJ3 n, hM3.drewN n, .inr ⟨⟨r2, by have := r.2; omega⟩, by rw [strs_snoc, H1.out, hr, e1]; simp, rfl, rfl⟩⟩, ?_⟩
            rw [left_yes, ← e1]
            simp
        obtain ⟨v1, v2, v3, CC, SI, ML⟩ := next
        have SI := hid SI
        have ML := hid ML
        clear hy hR
        gi_wp2_with (refine ⟨trivial, ?_⟩; gi_at_call 34; refine (callsIn_wide.2 CC).mono ?_; rintro e w' ⟨rfl, n0, rfl⟩)
        have S0 := hid (SI.out n0)
        generalize hw1 : W3.drewN n0 = W1 at *
        clear hw1 CC SI
        gi_wp2
        go_roundw
        case rel => exact S0.out
        case measure => exact ML.out
      · gi_wp2
        go_end0
        refine ⟨⟨_, rfl⟩, .inr ⟨_, ?_, hJx3⟩⟩
        rw [strs_snoc, H1.out]
        exact ⟨rests r.1, by simp⟩

set_option maxHeartbeats 1000000 in
/-- afterStartCodes(s): the string is boxed; the function value captures the box. -/
theorem it_in (F : Fence) (n : Nat) (hf : F.fn 23) (hro : F.round = none) (s : ByteArray) (w : World) :
    CallsIn F n Try.prog 23 #[.string s] w fun e w' => e = .returned (.func (.func 33) #[] #[.pointer (some ⟨w.heap.size, 0, none⟩)]) ∧ w' = w.alloc (.cells #[.string s] 9) := by
  refine callsIn_of_wp Try.func23 rfl hf ?_ hro
  simp only [Try.ntmps23, List.size_toArray, List.length_cons, List.length_nil, Nat.reduceAdd, Nat.reduceSub, Array.replicate_succ, Array.replicate_zero, List.push_toArray, List.append_toArray, List.nil_append, List.cons_append]
  gi_wp2
  go_ret
  exact ⟨rfl, rfl⟩

/-- The iterator's contract: all of them, in order; or a prefix. -/
theorem it_stops (n : Nat) (hn : 1 ≤ n) (Bx : Nat) (s : ByteArray) (hs : s.size ≤ 16777216) (w : World) (hlt : Bx < w.heap.size) (hM : MaxL w)
    (hB : w.heap[Bx]? = some (.cells #[.string s] 9)) :
    SeqStopsK Fence.wide n Try.prog 33 #[.pointer (some ⟨Bx, 0, none⟩)] (fun x : Rst => #[Value.string (strOf x.1)]) (KeepB 0) (fun ys => strs ys = rests s.data.toList)
      (fun pre => strs pre <+: rests s.data.toList) s.size w := fun l J Jx W hW hJ hJx hY h0 =>
  it1_in n hn l Bx s hs J Jx W.heap.size hJ hJx hY W ((hW.block Bx hlt).trans hB) (hM.below hW hM.lt) h0
end Go.Proofs.Ytfigmjlnjaihnaa

/- The program's iterator: each byte of a string with the number of bytes 0 before it. -/
import Derived.RangeFuncNested
import Derived.RangeFuncBound
import Derived.RangeFuncCalls
import Derived.RangeFuncLeaves
import Derived.RangeFuncBox
import Derived.Shelf.Abstract
import Derived.Shelf.RegionOpen
import Derived.WalkKit
import Derived.OwnWalkIn
import Derived.TacticsInMore
import Derived.LoopNIn
import Derived.LoopIn
import Derived.Test.YtghdnefaempigaaDoorNalP
import Derived.Test.YtghdnefaempigaaDoorRows
namespace Go.Proofs.YtghdnefaempigaaDoor
open Go.RowKit Go.Shelf
set_option linter.unusedVariables false
attribute [local go_sem] Oper.semAt_some

/-- Block B is as it was. -/
def KeepB (B : Nat) (w w' : World) : Prop := w'.heap[B]? = w.heap[B]?

theorem AbidesFrom.drew {β : Type} {B : Nat} {J : β → World → Prop} (h : AbidesFrom B J) {s : β} {W : World} (hs : J s W) : J s W.drew :=
  h s W W.drew none hs ⟨rfl, rfl, rfl, Nat.le_refl _, fun _ _ _ => rfl⟩ (fun r e => by cases e)

theorem getE (s : ByteArray) (j : Nat) (h : j < s.size) : s.data.toList[j]? = some s[j] := by
  rw [List.getElem?_eq_getElem (by simpa using h)]; rfl

set_option maxRecDepth 100000 in
set_option maxHeartbeats 2000000 in
theorem it1_in (F : Fence) (n : Nat) (hf : F.fn 30) (hro : F.round = none) (hn : 1 ≤ n) (l Bx : Nat) (s : ByteArray) (hs : s.size ≤ 140737488351232) (J Jx : List (UInt8 × Nat) → World → Prop)
    (Bj : Nat) (hJ : AbidesFrom Bj J) (hJx : AbidesFrom Bj Jx)
    (hY : ∀ pre x W, J pre W → pre.length < s.size → YieldAt F (n - 1) Tryd.prog l #[.int .u8 x.1.toNat, .int .i64 (x.2 : Int)] W fun e W' =>
      (e = .returned (.bool true) ∧ J (pre ++ [x]) W' ∧ KeepB Bx W W') ∨ (e = .returned (.bool false) ∧ Jx (pre ++ [x]) W'))
    (W : World) (hB : W.heap[Bx]? = some (.cells #[.string s] 9)) (h0 : J [] W) :
    CallsIn F n Tryd.prog 30 #[.func (.yield l) #[] #[], .pointer (some ⟨Bx, 0, none⟩)] W fun e W' => (∃ v, e = .returned v) ∧
      ((∃ ys, ys = pairsF 0 s.data.toList ∧ J ys W') ∨ (∃ pre, pre <+: pairsF 0 s.data.toList ∧ Jx pre W')) := by
  refine callsIn_of_wp Tryd.func30 rfl hf ?_ hro
  simp only [Tryd.ntmps30, List.size_toArray, List.length_cons, List.length_nil, Nat.reduceAdd, Nat.reduceSub, Array.replicate_succ, Array.replicate_zero, List.push_toArray, List.append_toArray, List.nil_append, List.cons_append]
  have hc0 : W.cell? ⟨Bx, 0, none⟩ = some (.string s) := by unfold World.cell?; rw [hB]; rfl
  gi_wp2
  gi_loopw [3, 7] (fun z i wr => ∃ k : Nat, k ≤ s.size ∧ i = .int .i64 k ∧ z = .int .i64 (endF 0 (s.data.toList.take k)) ∧ J (pairsF 0 (s.data.toList.take k)) wr ∧ wr.heap[Bx]? = some (.cells #[.string s] 9))
    (fun z i _ => s.size - (intOf i).toNat)
  case atStart => exact ⟨0, Nat.zero_le _, rfl, rfl, h0, hB⟩
  case round =>
    obtain ⟨k, hk, rfl, rfl, hJs, hBr⟩ := hrel
    have hcr : wr.cell? ⟨Bx, 0, none⟩ = some (.string s) := by unfold World.cell?; rw [hBr]; rfl
    by_cases hlt : k < s.size
    · obtain ⟨fn, tmps, assign, body, hy, hR⟩ := hY _ (s[k], endF 0 (s.data.toList.take k)) wr hJs (by rw [pairsF_length, List.length_take]; omega)
      dsimp only at hy
      gi_wp2
      obtain ⟨e1, e2⟩ := pairs_snoc s.data.toList k s[k] (getE s k hlt)
      rw [← e1] at hR
      refine hR.mono ?_
      rintro e W3 (⟨rfl, hJ3, hk3⟩ | ⟨rfl, hJx3⟩)
      · have hB3 : W3.heap[Bx]? = some (.cells #[.string s] 9) := hk3.trans hBr
        have hc3 : W3.cell? ⟨Bx, 0, none⟩ = some (.string s) := by unfold World.cell?; rw [hB3]; rfl
        have hle : endF 0 (s.data.toList.take k) ≤ s.size := by
          have := endF_le (s.data.toList.take k) 0
          have h2 : (s.data.toList.take k).length ≤ k := List.length_take_le _ _
          omega
        by_cases hb : s[k] = 0
        · have hb' : (s[k].toNat : Int) = 0 := by rw [hb]; rfl
          have eu : zUp (endF 0 (s.data.toList.take k)) s[k] = endF 0 (s.data.toList.take k) + 1 := by unfold zUp; rw [if_pos hb]
          rw [eu] at e2
          gi_wp2
          go_roundw
          case rel => exact ⟨k + 1, by omega, by simp, by rw [e2]; rfl, hJ3, hB3⟩
          case measure => simp [intOf]; omega
        · have hb' : ¬ (s[k].toNat : Int) = 0 := by
            intro h
            exact hb (UInt8.toNat_inj.1 (by rw [show s[k].toNat = 0 from by omega]; rfl))
          have eu : zUp (endF 0 (s.data.toList.take k)) s[k] = 0 := by unfold zUp; rw [if_neg hb]
          rw [eu] at e2
          gi_wp2
          go_roundw
          case rel => exact ⟨k + 1, by omega, by simp, by rw [e2]; rfl, hJ3, hB3⟩
          case measure => simp [intOf]; omega
      · gi_wp2
        refine bodyPost_ret (results_none rfl _ _ _) rfl ?_
        refine ⟨⟨_, rfl⟩, .inr ⟨_, ?_, hJx3⟩⟩
        rw [← pairsF_take]
        exact List.take_prefix _ _
    · obtain rfl : k = s.size := by omega
      rw [List.take_of_length_le (by simp)] at hJs
      gi_wp2
      go_end0
      exact ⟨⟨_, rfl⟩, .inl ⟨_, rfl, hJs⟩⟩

set_option maxHeartbeats 1000000 in
/-- bytesAfterZeros(s): the string is boxed; the function value captures the box. -/
theorem it_in (F : Fence) (n : Nat) (hf : F.fn 22) (hro : F.round = none) (s : ByteArray) (w : World) :
    CallsIn F n Tryd.prog 22 #[.string s] w fun e w' => e = .returned (.func (.func 30) #[] #[.pointer (some ⟨w.heap.size, 0, none⟩)]) ∧ w' = w.alloc (.cells #[.string s] 9) := by
  refine callsIn_of_wp Tryd.func22 rfl hf ?_ hro
  simp only [Tryd.ntmps22, List.size_toArray, List.length_cons, List.length_nil, Nat.reduceAdd, Nat.reduceSub, Array.replicate_succ, Array.replicate_zero, List.push_toArray, List.append_toArray, List.nil_append, List.cons_append]
  gi_wp2
  go_ret
  exact ⟨rfl, rfl⟩

/-- The iterator's contract: all pairs, in order; or a prefix of them. -/
theorem it_stops (F : Fence) (n : Nat) (hf : F.fn 30) (hro : F.round = none) (hn : 1 ≤ n) (Bx : Nat) (s : ByteArray) (hs : s.size ≤ 140737488351232) (w : World) (hlt : Bx < w.heap.size)
    (hB : w.heap[Bx]? = some (.cells #[.string s] 9)) :
    SeqStopsK F n Tryd.prog 30 #[.pointer (some ⟨Bx, 0, none⟩)] (fun x : UInt8 × Nat => #[Value.int .u8 x.1.toNat, Value.int .i64 (x.2 : Int)]) (KeepB Bx) (fun ys => ys = pairsF 0 s.data.toList)
      (fun pre => pre <+: pairsF 0 s.data.toList) s.size w := fun l J Jx W hW hJ hJx hY h0 =>
  it1_in F n hf hro hn l Bx s hs J Jx W.heap.size hJ hJx hY W ((hW.block Bx hlt).trans hB) h0
end Go.Proofs.YtghdnefaempigaaDoor

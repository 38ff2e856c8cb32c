/- The program's Escape: a string's escaped form. Condition: at most 100,000 bytes. -/
import Derived.Test.YtghdnefaempigaaDoorBu
import Derived.Test.YtghdnefaempigaaDoorREsc
namespace Go.Proofs.YtghdnefaempigaaDoor
open Go.RowKit Go.Shelf
set_option linter.unusedVariables false
attribute [local go_sem] Oper.semAt_some

set_option maxRecDepth 100000 in
set_option maxHeartbeats 4000000 in
theorem esc_any (s : ByteArray) (w : World) (hs : s.size ≤ 100000) :
    Calls Tryd.prog 16 #[.string s] w fun e w' => e = .returned (.string (bytesOf (esc s.data.toList))) ∧ Only [] w w' := by
  refine (callsIn_wide (n := 5)).1 ?_
  refine callsIn_of_wp_marks Tryd.func16 rfl trivial ?_ rfl
  simp only [Tryd.ntmps16, List.size_toArray, List.length_cons, List.length_nil, Nat.reduceAdd, Nat.reduceSub, Array.replicate_succ, Array.replicate_zero, List.push_toArray, List.append_toArray, List.nil_append, List.cons_append]
  gi_wp2_with (refine ⟨trivial, ?_⟩; gi_at_call 21; refine (callsIn_wide.2 (grow_fresh w.heap.size w.heap.size s.size _ (Nat.le_refl _) (World.alloc_heap_new _ _) (by simp) (by omega))).mono ?_; rintro e w1 ⟨rfl, hA, hB1⟩)
  gi_wp2_with (refine ⟨trivial, ?_⟩; gi_at_call 22; refine (it_in Fence.wide _ trivial rfl s _).mono ?_; rintro e w' ⟨rfl, rfl⟩)
  have hb1 : w.heap.size + 1 ≤ w1.heap.size := by have := hB1.size; simpa using this
  have hBx : (w1.alloc (.cells #[.string s] 9)).heap[w1.heap.size]? = some (.cells #[.string s] 9) := World.alloc_heap_new _ _
  have hB0 : Below w.heap.size w w1 := ((Below.refl _ w).alloc (Nat.le_refl _) _).trans hB1
  have hB2 : Below w.heap.size w (w1.alloc (.cells #[.string s] 9)) := hB0.alloc (by omega) _
  obtain ⟨W0, hW0⟩ : ∃ W0, w1.alloc (.cells #[.string s] 9) = W0 := ⟨_, rfl⟩
  obtain ⟨Bx, hBxe⟩ : ∃ Bx, w1.heap.size = Bx := ⟨_, rfl⟩
  have hF0 : Lib.IsBuilderF 44 5 w.heap.size w.heap.size (Lib.byteCells []) W0 := by
    rw [← hW0]; exact isF_alloc (.inr (.of hA)) _
  have hsz0 : W0.heap.size = Bx + 1 := by rw [← hW0, ← hBxe]; simp
  rw [hW0] at hBx hB2 ⊢
  rw [hBxe] at hBx hb1 ⊢
  clear hA hB1 hB0
  refine wpIn_rangeFunc_ownG rfl (by omega) (gf := 30) (lb := #[.pointer (some ⟨Bx, 0, none⟩)]) rfl trivial (enters_of Tryd.func30 (by kernel_rfl) rfl)
    (it_stops Fence.wide _ trivial rfl (by omega) Bx s (by omega) _ (by omega) hBx) keepsB_t (keepsB_b (by omega)) (Below.refl _ _) (fun _ => rfl)
    (fun pre W => (Lib.IsBuilderF 44 5 w.heap.size w.heap.size (Lib.byteCells (outE pre)) W ∧ W.heap[Bx]? = some (.cells #[.string s] 9)) ∧ Below w.heap.size w W)
    (fun _ _ _ => False)
    (OwnFrom.and (fun pre A B row hs hg hr => ⟨isF_grown hs.1 hg (fun r e => (hr r e).2), (hg.block Bx (Array.getElem?_eq_some_iff.1 hs.2).1 (fun e => by have := (hr _ e.symm).1; omega)).trans hs.2⟩) (ownFrom_below (Nat.le_refl _) (by omega)))
    (fun _ _ _ _ _ hs _ _ => hs)
    ⟨⟨hF0, hBx⟩, hB2⟩
    (fun x => { tmps := #[.string s, undef, .string ⟨#[]⟩, .pointer (some ⟨w.heap.size, 0, none⟩), .int .u8 x.1.toNat, .int .i64 (x.2 : Int), .string s, .int .i64 s.size, .tuple #[], .string s,
      .func (.func 30) #[] #[.pointer (some ⟨Bx, 0, none⟩)], .int .u8 x.1.toNat, .int .i64 (x.2 : Int), undef, undef, undef, undef, undef, undef, undef, undef, undef, undef, undef, undef, undef, undef], defers := [] }) ?assign ?body ?done ?stop
  case assign =>
    intro l x W K hK
    gi_wp2
    exact hK
  case body =>
    rintro l pre x W ⟨⟨hF, hbx⟩, hB⟩ hlen
    have hol := outE_len pre
    have hle : w.heap.size ≤ W.heap.size := hB.size
    have hOs := outE_snoc pre x
    by_cases hc : x.1 ≤ 3
    · have hc' : (x.1.toNat : Int) ≤ 3 := by
        have := UInt8.le_iff_toNat_le.1 hc
        simp at this
        omega
      by_cases hp : pairB x.2 = true
      · rw [if_pos ⟨hc, hp⟩] at hOs
        gi_wp2_with (refine ⟨trivial, ?_⟩; gi_at_call 27; refine (CallsIn.inRound l (callsIn_wide.2 (pair_any _ _))).mono ?_; rintro e w' ⟨rfl, rfl⟩)
        refine ⟨trivial, (CallsIn.inRound l (callsIn_wide.2 (wb w.heap.size (outE pre) 3 3 rfl _ hF (by omega) hle))).mono ?_⟩
        rintro e W1 ⟨rfl, hF1, hB1, hk1⟩
        have hle1 : w.heap.size ≤ W1.heap.size := Nat.le_trans hle hB1.size
        gi_wp2
        refine ⟨trivial, (CallsIn.inRound l (callsIn_wide.2 (wb w.heap.size (outE pre ++ [3]) x.1 _ rfl _ hF1 (by simp; omega) hle1))).mono ?_⟩
        rintro e W2 ⟨rfl, hF2, hB2', hk2⟩
        gi_wp2
        have hbx2 := keepB_of (hk1.trans hk2) hbx (by decide) (by omega)
        refine ⟨keepsFrom_of (hk1.trans hk2) (Nat.le_trans hB1.size hB2'.size) (by omega), hbx2.trans hbx.symm, ⟨?_, hbx2⟩, (hB.trans hB1).trans hB2'⟩
        rw [hOs]
        simpa using hF2
      · have hp' : pairB x.2 = false := by simpa using hp
        rw [if_neg (fun e => hp e.2)] at hOs
        gi_wp2_with (refine ⟨trivial, ?_⟩; gi_at_call 27; refine (CallsIn.inRound l (callsIn_wide.2 (pair_any _ _))).mono ?_; rintro e w' ⟨rfl, rfl⟩)
        refine ⟨trivial, (CallsIn.inRound l (callsIn_wide.2 (wb w.heap.size (outE pre) x.1 _ rfl _ hF (by omega) hle))).mono ?_⟩
        rintro e W1 ⟨rfl, hF1, hB1, hk1⟩
        gi_wp2
        have hbx2 := keepB_of hk1 hbx (by decide) (by omega)
        refine ⟨keepsFrom_of hk1 hB1.size (by omega), hbx2.trans hbx.symm, ⟨?_, hbx2⟩, hB.trans hB1⟩
        rw [hOs]
        exact hF1
    · have hc' : ¬ (x.1.toNat : Int) ≤ 3 := by
        intro h
        refine hc (UInt8.le_iff_toNat_le.2 ?_)
        show x.1.toNat ≤ 3
        omega
      rw [if_neg (fun e => hc e.1)] at hOs
      gi_wp2
      refine ⟨trivial, ?_⟩
      gi_wp2
      refine ⟨trivial, (CallsIn.inRound l (callsIn_wide.2 (wb w.heap.size (outE pre) x.1 _ rfl _ hF (by omega) hle))).mono ?_⟩
      rintro e W1 ⟨rfl, hF1, hB1, hk1⟩
      gi_wp2
      have hbx2 := keepB_of hk1 hbx (by decide) (by omega)
      refine ⟨keepsFrom_of hk1 hB1.size (by omega), hbx2.trans hbx.symm, ⟨?_, hbx2⟩, hB.trans hB1⟩
      rw [hOs]
      exact hF1
  case done =>
    rintro D ys W hD rfl ⟨⟨hF, hbx⟩, hB⟩ hK
    have hol := outE_len (pairsF 0 s.data.toList)
    rw [pairsF_length] at hol
    have hln : s.data.toList.length = s.size := by simp
    have hle : w.heap.size ≤ W.heap.size := hB.size
    have hE := outE_esc s.data.toList
    by_cases hp : pairB (endF 0 s.data.toList) = true
    · rw [if_pos hp] at hE
      gi_wp2_with (refine ⟨trivial, ?_⟩; first | (gi_at_call 24; refine (callsIn_wide.2 (zeros_any s _ (by omega))).mono ?_; rintro e w' ⟨rfl, rfl⟩) | (gi_at_call 27; refine (callsIn_wide.2 (pair_any _ _)).mono ?_; rintro e w' ⟨rfl, rfl⟩))
      refine ⟨trivial, (callsIn_wide.2 (wb w.heap.size (outE (pairsF 0 s.data.toList)) 3 3 rfl _ hF (by omega) hle)).mono ?_⟩
      rintro e W1 ⟨rfl, hF1, hB1, hk1⟩
      have hle1 : w.heap.size ≤ W1.heap.size := Nat.le_trans hle hB1.size
      rw [hE] at hF1
      gi_wp2
      refine ⟨trivial, (callsIn_wide.2 (string_any w.heap.size w.heap.size (esc s.data.toList) _ hF1 hle1)).mono ?_⟩
      rintro e W2 ⟨rfl, hF2, hB2', hk2⟩
      have hK2 : W2.heap[D]? = some (.deferred (some [])) := (hk1.trans hk2) D _ hK (fun e => by cases e; omega) (fun c fz e => by cases e)
      gi_wp2
      refine ⟨by simp, .inl ⟨_, _, rfl, run_takeDeferred hK2, ?_⟩⟩
      exact ⟨_, results_tmp rfl _ _ _, rfl, Only.of_below (((hB.trans hB1).trans hB2').trans (belowK_b (w := w) (Nat.le_refl _) W2 D _ _ (by omega) hK2 rfl rfl))⟩
    · have hp' : pairB (endF 0 s.data.toList) = false := by simpa using hp
      rw [if_neg hp, List.append_nil] at hE
      rw [hE] at hF
      gi_wp2_with (refine ⟨trivial, ?_⟩; first | (gi_at_call 24; refine (callsIn_wide.2 (zeros_any s _ (by omega))).mono ?_; rintro e w' ⟨rfl, rfl⟩) | (gi_at_call 27; refine (callsIn_wide.2 (pair_any _ _)).mono ?_; rintro e w' ⟨rfl, rfl⟩))
      refine ⟨trivial, (callsIn_wide.2 (string_any w.heap.size w.heap.size (esc s.data.toList) _ hF hle)).mono ?_⟩
      rintro e W2 ⟨rfl, hF2, hB2', hk2⟩
      have hK2 : W2.heap[D]? = some (.deferred (some [])) := hk2 D _ hK (fun e => by cases e; omega) (fun c fz e => by cases e)
      gi_wp2
      refine ⟨by simp, .inl ⟨_, _, rfl, run_takeDeferred hK2, ?_⟩⟩
      exact ⟨_, results_tmp rfl _ _ _, rfl, Only.of_below ((hB.trans hB2').trans (belowK_b (w := w) (Nat.le_refl _) W2 D _ _ (by omega) hK2 rfl rfl))⟩
  case stop =>
    rintro D c pre W _ _ h _
    exact h.elim
end Go.Proofs.YtghdnefaempigaaDoor

/- The program's Unescape: the string that was escaped, or ErrForm. Condition: at most 50,000 bytes. -/
import Derived.Test.YtghdnefaempigaaDoorBu
import Derived.Test.YtghdnefaempigaaDoorRUn
namespace Go.Proofs.YtghdnefaempigaaDoor
open Go.RowKit Go.Shelf
set_option linter.unusedVariables false
attribute [local go_sem] Oper.semAt_some

/-- A builder stays one while another block of cells is written. -/
theorem isF_set {T e t : TypeId} {B b k : Nat} {bs : List Value} {W : World} {u : Value} (h : Lib.IsBuilderF T e B b bs W) (hk : Boxed W k t u) (h1 : t ≠ T) (h2 : t ≠ e) (v : Value) : Lib.IsBuilderF T e B b bs (W.setCell ⟨k, 0, none⟩ v) := by
  have hcell : ∀ (j : Nat) (c : Array Value) (t' : TypeId) (fz : Nat × Nat), t' ≠ t → W.heap[j]? = some (Obj.cells c t' fz) → (W.setCell ⟨k, 0, none⟩ v).heap[j]? = some (Obj.cells c t' fz) := fun j c t' fz ht hj => by
    have hjk : j ≠ k := fun e => by
      subst e
      have hk' : W.heap[j]? = some (.cells #[u] t (0, 0)) := hk
      rw [hj] at hk'
      injection hk' with hk'
      injection hk' with _ ht' _
      exact ht ht'
    rw [Below.heap_setCell _ _ _ _ hjk]
    exact hj
  have one : ∀ p, Lib.BuilderAtF T e B b p bs W → Lib.BuilderAtF T e B b p bs (W.setCell ⟨k, 0, none⟩ v) := by
    rintro p ⟨hB, v', hb, hown, hne⟩
    refine ⟨hB, v', hcell _ _ _ _ h1.symm hb, ⟨hown.1, ?_⟩, hne⟩
    rcases hown.2 with hn | ⟨g, cap, cur, fz, hv, hbg, hgg, rest⟩
    · exact .inl hn
    · exact .inr ⟨g, cap, cur, fz, hv, hbg, hcell _ _ _ _ h2.symm hgg, rest⟩
  rcases h with h | h
  · exact .inl (one _ h)
  · exact .inr (one _ h)

/-- What the loop's cells hold: the bytes that are left, whether the last one was removed, the string, the results. -/
structure USt (R b Rm Bx : Nat) (s : ByteArray) (out : List UInt8) (rm : Bool) (W : World) : Prop where
  f : Lib.IsBuilderF 44 5 b b (Lib.byteCells out) W
  m : Boxed W Rm 4 (.bool rm)
  x : Boxed W Bx 9 (.string s)
  r : Boxed W R 9 (.string ⟨#[]⟩)
  e : Boxed W (R + 1) 23 (.int .i64 0)
theorem USt.grown {R b Rm Bx : Nat} {s : ByteArray} {out : List UInt8} {rm : Bool} {W W' : World} {row : Option Nat} (h : USt R b Rm Bx s out rm W) (hg : W.grownBy W' row)
    (hr : ∀ r, row = some r → ∃ o : Obj, W.heap[r]? = some o ∧ o.isCells = false) : USt R b Rm Bx s out rm W' := by
  have hb : ∀ {k : Nat} {t : TypeId} {v : Value}, Boxed W k t v → Boxed W' k t v := fun {k t v} hk => hk.kept hg (fun e => by
    obtain ⟨o, ho, hn⟩ := hr k e.symm
    have hk' : W.heap[k]? = some (.cells #[v] t (0, 0)) := hk
    rw [hk'] at ho
    injection ho with ho
    subst ho
    cases hn)
  exact ⟨isF_grown h.f hg hr, hb h.m, hb h.x, hb h.r, hb h.e⟩
theorem USt.write {R b Rm Bx : Nat} {s : ByteArray} {out out' : List UInt8} {rm : Bool} {W W' : World} (h : USt R b Rm Bx s out rm W) (hk : Lib.OthersKept 5 (some b) W W')
    (hf : Lib.IsBuilderF 44 5 b b (Lib.byteCells out') W') (h1 : Rm ≠ b) (h2 : Bx ≠ b) (h3 : R + 1 < b) : USt R b Rm Bx s out' rm W' :=
  ⟨hf, keepB_of hk h.m (by decide) h1, keepB_of hk h.x (by decide) h2, keepB_of hk h.r (by decide) (by omega), keepB_of hk h.e (by decide) (by omega)⟩
theorem USt.mark {R b Rm Bx : Nat} {s : ByteArray} {out : List UInt8} {rm : Bool} {W : World} (h : USt R b Rm Bx s out rm W) (rm' : Bool) (h1 : Rm ≠ Bx) (h3 : R + 1 < Rm) : USt R b Rm Bx s out rm' (W.setCell ⟨Rm, 0, none⟩ (.bool rm')) :=
  ⟨isF_set h.f h.m (by decide) (by decide) _, h.m.set _, h.x.kept (grownBy_setCell' _ _ _) (fun e => by cases e; exact h1 rfl), h.r.kept (grownBy_setCell' _ _ _) (fun e => by cases e; omega), h.e.kept (grownBy_setCell' _ _ _) (fun e => by cases e; omega)⟩
/-- Between two rounds; behind a round that ended the loop. -/
def UI (w : World) (Rm : Nat) (s : ByteArray) (pre : List (UInt8 × Nat)) (W : World) : Prop := (∃ out rm, uRun pre = some (out, rm) ∧ USt w.heap.size (w.heap.size + 1 + 1) Rm (Rm + 1) s out rm W) ∧ Below w.heap.size w W
def UX (w : World) (c : Code) (pre : List (UInt8 × Nat)) (W : World) : Prop := (c = .ret ∧ uRun pre = none ∧ Boxed W w.heap.size 9 (.string ⟨#[]⟩) ∧ Boxed W (w.heap.size + 1) 23 (.int .i64 4)) ∧ Below w.heap.size w W
theorem UI.own (w : World) (Rm : Nat) (s : ByteArray) (B : Nat) (hB : w.heap.size ≤ B) : OwnFrom B (UI w Rm s) :=
  OwnFrom.and (fun pre A B row hs hg hr => by obtain ⟨out, rm, h1, h2⟩ := hs; exact ⟨out, rm, h1, h2.grown hg (fun r e => (hr r e).2)⟩) (ownFrom_below (Nat.le_refl _) hB)
theorem UX.own (w : World) (c : Code) (B : Nat) (hB : w.heap.size + 1 + 1 ≤ B) : OwnFrom B (UX w c) :=
  OwnFrom.and (fun pre A B row hs hg hr => by
    obtain ⟨h1, h2, h3, h4⟩ := hs
    exact ⟨h1, h2, h3.kept hg (fun e => by have := (hr _ e.symm).1; omega), h4.kept hg (fun e => by have := (hr _ e.symm).1; omega)⟩) (ownFrom_below (Nat.le_refl _) (by omega))
theorem u8_lt3 {b : UInt8} (h : b < 3) : (b.toNat : Int) < 3 := by have := UInt8.lt_iff_toNat_lt.1 h; simp at this; omega
theorem u8_gt3 {b : UInt8} (h : 3 < b) : (3 : Int) < b.toNat := by have := UInt8.lt_iff_toNat_lt.1 h; simp at this; omega
theorem u8_ne3l {b : UInt8} (h : b < 3) : b ≠ 3 := fun e => by rw [e] at h; exact absurd h (by decide)
theorem u8_ne3g {b : UInt8} (h : 3 < b) : b ≠ 3 := fun e => by rw [e] at h; exact absurd h (by decide)
theorem u8_asym {b : UInt8} (h : 3 < b) : ¬ b < 3 := fun e => by have := u8_lt3 e; have := u8_gt3 h; omega

theorem un_end (w W : World) (D : Nat) (v : ByteArray) (k : Int) (l : List UInt8) {t0 t1 : Value} {ts : List Value} (bR : Boxed W w.heap.size 9 (.string v)) (bE : Boxed W (w.heap.size + 1) 23 (.int .i64 k)) (hB : Below w.heap.size w W)
    (hK : W.heap[D]? = some (.deferred (some []))) (hD : w.heap.size ≤ D) (hv : unR l = (v, k)) :
    bodyPostM Fence.wide 5 Tryd.prog Tryd.f12 (fun e w' => e = .returned (.tuple #[.string (unR l).1, .int .i64 (unR l).2]) ∧ Only [] w w') Exit.ret
      { tmps := (t0 :: t1 :: .pointer (some ⟨w.heap.size, 0, none⟩) :: .pointer (some ⟨w.heap.size + 1, 0, none⟩) :: ts).toArray, defers := [{ target := Target.collected D, args := #[] }] } W := by
  refine ⟨by simp, .inl ⟨_, _, rfl, run_takeDeferred hK, ?_⟩⟩
  have hr5 := cell_kept bR.cell (grownBy_putObj' W D (.deferred none)) (fun r e => by cases e; exact ⟨_, hK, rfl⟩)
  have he5 := cell_kept bE.cell (grownBy_putObj' W D (.deferred none)) (fun r e => by cases e; exact ⟨_, hK, rfl⟩)
  refine ⟨.tuple #[.string v, .int .i64 k], ?_, by rw [hv], Only.of_below (hB.trans (belowK_b (w := w) (Nat.le_refl _) W D _ _ hD hK rfl rfl))⟩
  simp [results, Tryd.f12, go_sem, hr5, he5]

set_option maxRecDepth 100000 in
set_option maxHeartbeats 4000000 in
theorem un_any (s : ByteArray) (w : World) (hs : s.size ≤ 50000) :
    Calls Tryd.prog 12 #[.string s] w fun e w' => e = .returned (.tuple #[.string (unR s.data.toList).1, .int .i64 (unR s.data.toList).2]) ∧ Only [] w w' := by
  refine (callsIn_wide (n := 5)).1 ?_
  refine callsIn_of_wp_marks Tryd.func12 rfl trivial ?_ rfl
  simp only [Tryd.ntmps12, List.size_toArray, List.length_cons, List.length_nil, Nat.reduceAdd, Nat.reduceSub, Array.replicate_succ, Array.replicate_zero, List.push_toArray, List.append_toArray, List.nil_append, List.cons_append]
  gi_wp2_with (refine ⟨trivial, ?_⟩; gi_at_call 21; refine (callsIn_wide.2 (grow_fresh (w.heap.size + 1 + 1) (w.heap.size + 1 + 1) s.size _ (Nat.le_refl _) (by have := World.alloc_heap_new ((w.alloc (.cells #[.string ⟨#[]⟩] 9)).alloc (.cells #[.int .i64 0] 23)) (.cells #[.pointer none, .slice none 0 0] 44); simpa using this) (by simp) (by omega))).mono ?_; rintro e w1 ⟨rfl, hA, hB1⟩)
  gi_wp2_with (refine ⟨trivial, ?_⟩; gi_at_call 22; refine (it_in Fence.wide _ trivial rfl s _).mono ?_; rintro e w' ⟨rfl, rfl⟩)
  have hb1 : w.heap.size + 1 + 1 + 1 ≤ w1.heap.size := by have := hB1.size; simpa using this
  have bR0 : Boxed (((w.alloc (.cells #[.string ⟨#[]⟩] 9)).alloc (.cells #[.int .i64 0] 23)).alloc (.cells #[.pointer none, .slice none 0 0] 44)) w.heap.size 9 (.string ⟨#[]⟩) := ((Boxed.new w 9 (.string ⟨#[]⟩)).alloc _).alloc _
  have bE0 : Boxed (((w.alloc (.cells #[.string ⟨#[]⟩] 9)).alloc (.cells #[.int .i64 0] 23)).alloc (.cells #[.pointer none, .slice none 0 0] 44)) (w.heap.size + 1) 23 (.int .i64 0) := by
    have := Boxed.new (w.alloc (.cells #[.string ⟨#[]⟩] 9)) 23 (.int .i64 0)
    rw [World.size_alloc] at this
    exact this.alloc _
  have bR1 : Boxed w1 w.heap.size 9 (.string ⟨#[]⟩) := (hB1.block _ (by omega)).trans bR0
  have bE1 : Boxed w1 (w.heap.size + 1) 23 (.int .i64 0) := (hB1.block _ (by omega)).trans bE0
  have hB0 : Below w.heap.size w w1 := ((((Below.refl _ w).alloc (Nat.le_refl _) _).alloc (by simp) _).alloc (by simp; omega) _).trans (hB1.mono (by omega))
  have bM1 := Boxed.new w1 4 (.bool false)
  have bX1 := Boxed.new (w1.alloc (.cells #[.bool false] 4)) 9 (.string s)
  rw [World.size_alloc] at bX1
  have hB2 : Below w.heap.size w ((w1.alloc (.cells #[.bool false] 4)).alloc (.cells #[.string s] 9)) := (hB0.alloc (by omega) _).alloc (by simp; omega) _
  have hS0 : USt w.heap.size (w.heap.size + 1 + 1) w1.heap.size (w1.heap.size + 1) s [] false ((w1.alloc (.cells #[.bool false] 4)).alloc (.cells #[.string s] 9)) :=
    ⟨isF_alloc (isF_alloc (.inr (.of hA)) _) _, bM1.alloc _, bX1, (bR1.alloc _).alloc _, (bE1.alloc _).alloc _⟩
  obtain ⟨W0, hW0⟩ : ∃ W0, (w1.alloc (.cells #[.bool false] 4)).alloc (.cells #[.string s] 9) = W0 := ⟨_, rfl⟩
  obtain ⟨Rm, hRm⟩ : ∃ Rm, w1.heap.size = Rm := ⟨_, rfl⟩
  have hsz0 : W0.heap.size = Rm + 1 + 1 := by rw [← hW0, ← hRm]; simp
  rw [hW0] at hS0 hB2 ⊢
  rw [hRm] at hS0 hb1 ⊢
  clear hA hB1 hB0 bR0 bE0 bR1 bE1 bM1 bX1
  refine wpIn_rangeFunc_ownG rfl (by omega) (gf := 30) (lb := #[.pointer (some ⟨Rm + 1, 0, none⟩)]) rfl trivial (enters_of Tryd.func30 (by kernel_rfl) rfl)
    (it_stops Fence.wide _ trivial rfl (by omega) (Rm + 1) s (by omega) _ (by omega) hS0.x) keepsB_t (keepsB_b (by omega)) (Below.refl _ _) (fun _ => rfl)
    (UI w Rm s) (UX w) (UI.own w Rm s _ (by omega)) (fun c => UX.own w c _ (by omega))
    ⟨⟨[], false, rfl, hS0⟩, hB2⟩
    (fun x => { tmps := #[.string s, undef, .pointer (some ⟨w.heap.size, 0, none⟩), .pointer (some ⟨w.heap.size + 1, 0, none⟩), .pointer (some ⟨w.heap.size + 1 + 1, 0, none⟩), .pointer (some ⟨Rm, 0, none⟩),
      .int .u8 x.1.toNat, .int .i64 (x.2 : Int), undef, undef, .string s, .int .i64 s.size, .tuple #[], .string s, .func (.func 30) #[] #[.pointer (some ⟨Rm + 1, 0, none⟩)], .int .u8 x.1.toNat, .int .i64 (x.2 : Int), undef, undef, undef, undef, undef, undef, undef, undef, undef, undef, undef, undef, undef, undef, undef, undef, undef, undef, undef, undef, undef, undef, undef, undef, undef, undef, undef, undef, undef], defers := [] }) ?assign ?body ?done ?stop
  case assign =>
    intro l x W K hK
    gi_wp2
    exact hK
  case body =>
    rintro l pre x W ⟨⟨out, rm, hu, hS⟩, hB⟩ hlen
    have hol := uRun_len pre _ hu
    have hle : w.heap.size + 1 + 1 ≤ W.heap.size := by have := hS.m.lt; omega
    have hOs := uRun_snoc pre x
    rw [hu] at hOs
    simp only [uStep] at hOs
    have cM := hS.m.cell
    have fM := hS.m.frozen
    have cR := hS.r.cell
    have fR := hS.r.frozen
    have cE := hS.e.cell
    have fE := hS.e.frozen
    -- a round that ends the loop
    have bad : uRun (pre ++ [x]) = none → (KeepsFrom (Rm + 1 + 1) W ((W.setCell ⟨w.heap.size, 0, none⟩ (.string ⟨#[]⟩)).setCell ⟨w.heap.size + 1, 0, none⟩ (.int .i64 4))) ∧
        UX w .ret (pre ++ [x]) ((W.setCell ⟨w.heap.size, 0, none⟩ (.string ⟨#[]⟩)).setCell ⟨w.heap.size + 1, 0, none⟩ (.int .i64 4)) := fun hn =>
      ⟨((KeepsOthers.setCell _ _ _).trans (KeepsOthers.setCell _ _ _)).from _, ⟨rfl, hn, (hS.r.set _).kept (grownBy_setCell' _ _ _) (fun e => by injection e with e; omega), (hS.e.kept (grownBy_setCell' _ _ _) (fun e => by injection e with e; omega)).set _⟩,
        (hB.setCell (p := ⟨w.heap.size, 0, none⟩) (Nat.le_refl _) _).setCell (p := ⟨w.heap.size + 1, 0, none⟩) (by simp) _⟩
    -- a round that writes the byte
    have good : uRun (pre ++ [x]) = some (out ++ [x.1], false) → ∀ W2, Lib.IsBuilderF 44 5 (w.heap.size + 1 + 1) (w.heap.size + 1 + 1) (Lib.byteCells (out ++ [x.1])) W2 → Below (w.heap.size + 1 + 1) (W.setCell ⟨Rm, 0, none⟩ (.bool false)) W2 →
        Lib.OthersKept 5 (some (w.heap.size + 1 + 1)) (W.setCell ⟨Rm, 0, none⟩ (.bool false)) W2 →
        KeepsFrom (Rm + 1 + 1) W W2 ∧ KeepB (Rm + 1) W W2 ∧ UI w Rm s (pre ++ [x]) W2 := fun hn W2 hf hb hk => by
      have hS2 := (hS.mark false (by omega) (by omega)).write hk hf (by omega) (by omega) (by omega)
      refine ⟨((KeepsOthers.setCell _ _ _).from _).trans (keepsFrom_of hk hb.size (by omega)), Eq.trans hS2.x hS.x.symm, ⟨_, _, hn, hS2⟩, (hB.setCell (p := ⟨Rm, 0, none⟩) (by simp; omega) _).trans (hb.mono (by omega))⟩
    have hle2 : w.heap.size + 1 + 1 ≤ (W.setCell ⟨Rm, 0, none⟩ (.bool false)).heap.size := by simp; omega
    have hF2 := (hS.mark false (by omega) (by omega)).f
    have cM2 := (hS.mark false (by omega) (by omega)).m.cell
    have cM3 := (hS.mark true (by omega) (by omega)).m.cell
    rcases lt3 x.1 with hb | hb | hb
    · have hb1 := u8_lt3 hb
      have hne := u8_ne3l hb
      by_cases hz : x.2 = 2
      · rw [if_pos (.inl ⟨hb, hz⟩)] at hOs
        have hz' : (x.2 : Int) = 2 := by omega
        gi_wp2
        exact bad hOs
      · rw [if_neg (fun e => by
          rcases e with e | e
          · exact hz e.2
          · exact u8_asym e.1 hb), if_neg (fun e => hne e.1)] at hOs
        have hz' : ¬ (x.2 : Int) = 2 := by omega
        gi_wp2
        refine ⟨trivial, (CallsIn.inRound l (callsIn_wide.2 (wb (w.heap.size + 1 + 1) out x.1 _ rfl _ hF2 (by omega) hle2))).mono ?_⟩
        rintro e W2 ⟨rfl, h1, h2, h3⟩
        gi_wp2
        have G := good hOs W2 h1 h2 h3
        rw [← hsz0] at G
        exact G
    · have hb1 : (x.1.toNat : Int) = 3 := by rw [hb]; rfl
      have n1 : ¬ x.1 < 3 := fun e => u8_ne3l e hb
      have n2 : ¬ 3 < x.1 := fun e => u8_ne3g e hb
      by_cases hz : x.2 = 2
      · rw [if_neg (fun e => by
          rcases e with e | e
          · exact n1 e.1
          · exact n2 e.1), if_pos ⟨hb, hz⟩] at hOs
        have hz' : (x.2 : Int) = 2 := by omega
        gi_wp2
        have hS2 := hS.mark true (by omega) (by omega)
        exact ⟨(KeepsOthers.setCell _ _ _).from _, Eq.trans hS2.x hS.x.symm, ⟨_, _, hOs, hS2⟩, hB.setCell (p := ⟨Rm, 0, none⟩) (by simp; omega) _⟩
      · rw [if_neg (fun e => by
          rcases e with e | e
          · exact n1 e.1
          · exact n2 e.1), if_neg (fun e => hz e.2)] at hOs
        have hz' : ¬ (x.2 : Int) = 2 := by omega
        have hz2 : ((x.2 : Int) == 2) = false := by simpa using hz'
        gi_wp2
        refine ⟨trivial, (CallsIn.inRound l (callsIn_wide.2 (wb (w.heap.size + 1 + 1) out x.1 3 (by rw [hb]; rfl) _ hF2 (by omega) hle2))).mono ?_⟩
        rintro e W2 ⟨rfl, h1, h2, h3⟩
        gi_wp2
        have G := good hOs W2 h1 h2 h3
        rw [← hsz0] at G
        exact G
    · have hb1 := u8_gt3 hb
      have hne := u8_ne3g hb
      cases rm with
      | true =>
        rw [if_pos (.inr ⟨hb, rfl⟩)] at hOs
        gi_wp2
        exact bad hOs
      | false =>
        rw [if_neg (fun e => by
          rcases e with e | e
          · exact u8_asym hb e.1
          · cases e.2), if_neg (fun e => hne e.1)] at hOs
        gi_wp2
        refine ⟨trivial, (CallsIn.inRound l (callsIn_wide.2 (wb (w.heap.size + 1 + 1) out x.1 _ rfl _ hF2 (by omega) hle2))).mono ?_⟩
        rintro e W2 ⟨rfl, h1, h2, h3⟩
        gi_wp2
        have G := good hOs W2 h1 h2 h3
        rw [← hsz0] at G
        exact G
  case done =>
    rintro D ys W hD rfl ⟨⟨out, rm, hu, hS⟩, hB⟩ hK
    have hle : w.heap.size + 1 + 1 ≤ W.heap.size := by have := hS.m.lt; omega
    have cR := hS.r.cell
    have fR := hS.r.frozen
    have cE := hS.e.cell
    have fE := hS.e.frozen
    have hU := uEnd_unesc s.data.toList
    unfold uEnd at hU
    rw [hu] at hU
    simp only [Option.bind_some] at hU
    by_cases h2 : 2 ≤ endF 0 s.data.toList
    · rw [if_pos h2] at hU
      have hR : unR s.data.toList = (⟨#[]⟩, 4) := by unfold unR; rw [← hU]
      have h2' : (2 : Int) ≤ (endF 0 s.data.toList : Nat) := by omega
      gi_wp2_with (refine ⟨trivial, ?_⟩; gi_at_call 24; refine (callsIn_wide.2 (zeros_any s _ (by omega))).mono ?_; rintro e W ⟨rfl, rfl⟩)
      have hS3 : Boxed ((W.setCell ⟨w.heap.size, 0, none⟩ (.string ⟨#[]⟩)).setCell ⟨w.heap.size + 1, 0, none⟩ (.int .i64 4)) w.heap.size 9 (.string ⟨#[]⟩) := (hS.r.set _).kept (grownBy_setCell' _ _ _) (fun e => by injection e with e; omega)
      have hE3 : Boxed ((W.setCell ⟨w.heap.size, 0, none⟩ (.string ⟨#[]⟩)).setCell ⟨w.heap.size + 1, 0, none⟩ (.int .i64 4)) (w.heap.size + 1) 23 (.int .i64 4) := (hS.e.kept (grownBy_setCell' _ _ _) (fun e => by injection e with e; omega)).set _
      have hB3 := (hB.setCell (p := ⟨w.heap.size, 0, none⟩) (Nat.le_refl _) (.string ⟨#[]⟩)).setCell (p := ⟨w.heap.size + 1, 0, none⟩) (by simp) (.int .i64 4)
      have hK3 := ((KeepsOthers.setCell W ⟨w.heap.size, 0, none⟩ (.string ⟨#[]⟩)).trans (KeepsOthers.setCell _ ⟨w.heap.size + 1, 0, none⟩ (.int .i64 4))).same D _ hK rfl
      exact un_end w _ D _ _ _ hS3 hE3 hB3 hK3 (by omega) (by rw [hR])
    · rw [if_neg h2] at hU
      have hR : unR s.data.toList = (bytesOf out, 0) := by unfold unR; rw [← hU]
      have h2' : ¬ (2 : Int) ≤ (endF 0 s.data.toList : Nat) := by omega
      gi_wp2_with (refine ⟨trivial, ?_⟩; gi_at_call 24; refine (callsIn_wide.2 (zeros_any s _ (by omega))).mono ?_; rintro e W ⟨rfl, rfl⟩)
      refine ⟨trivial, (callsIn_wide.2 (string_any (w.heap.size + 1 + 1) (w.heap.size + 1 + 1) out _ hS.f hle)).mono ?_⟩
      rintro e W2 ⟨rfl, hf2, hb2, hk2⟩
      have hS2 := hS.write hk2 hf2 (by omega) (by omega) (by omega)
      have hK2 : W2.heap[D]? = some (.deferred (some [])) := hk2 D _ hK (fun e => by injection e with e; omega) (fun c fz e => by cases e)
      have cR2 := hS2.r.cell
      have fR2 := hS2.r.frozen
      have cE2 := hS2.e.cell
      have fE2 := hS2.e.frozen
      gi_wp2
      have hS3 : Boxed ((W2.setCell ⟨w.heap.size, 0, none⟩ (.string (bytesOf out))).setCell ⟨w.heap.size + 1, 0, none⟩ (.int .i64 0)) w.heap.size 9 (.string (bytesOf out)) := (hS2.r.set _).kept (grownBy_setCell' _ _ _) (fun e => by injection e with e; omega)
      have hE3 : Boxed ((W2.setCell ⟨w.heap.size, 0, none⟩ (.string (bytesOf out))).setCell ⟨w.heap.size + 1, 0, none⟩ (.int .i64 0)) (w.heap.size + 1) 23 (.int .i64 0) := (hS2.e.kept (grownBy_setCell' _ _ _) (fun e => by injection e with e; omega)).set _
      have hB3 := ((hB.trans (hb2.mono (by omega))).setCell (p := ⟨w.heap.size, 0, none⟩) (Nat.le_refl _) (.string (bytesOf out))).setCell (p := ⟨w.heap.size + 1, 0, none⟩) (by simp) (.int .i64 0)
      have hK3 := ((KeepsOthers.setCell W2 ⟨w.heap.size, 0, none⟩ (.string (bytesOf out))).trans (KeepsOthers.setCell _ ⟨w.heap.size + 1, 0, none⟩ (.int .i64 0))).same D _ hK2 rfl
      exact un_end w _ D _ _ _ hS3 hE3 hB3 hK3 (by omega) (by rw [hR])
  case stop =>
    rintro D c pre W hD hpre ⟨⟨rfl, hu, bR, bE⟩, hB⟩ hK
    have hU := uEnd_unesc s.data.toList
    unfold uEnd at hU
    rw [uRun_none _ _ hu hpre] at hU
    have hR : unR s.data.toList = (⟨#[]⟩, 4) := by unfold unR; rw [← hU]; rfl
    gi_wp2
    exact un_end w _ D _ _ _ bR bE hB hK (by omega) (by rw [hR])
end Go.Proofs.YtghdnefaempigaaDoor

/- The program's iterator: the commands of a list as they are read; an error is the last thing that comes. Ahead of it: A range over a function that turns blocks of its own between two rounds (a reader, say): the iterator's contract, and what the caller owes. Plain: nothing of the translation stands here. -/
import Derived.Test.YtjjjfmnhdnajkaaGreatDoorMg1
import Derived.RangeFuncNested
import Derived.RangeFuncBound
import Derived.RangeFuncCalls
import Derived.RangeFuncLeaves
import Derived.RangeFuncBox
import Derived.Shelf.Abstract
import Derived.Shelf.RegionOpen
import Derived.WalkKit
import Derived.OwnWalkIn
import Derived.TacticsInMore
import Derived.LoopNIn
import Derived.LoopIn
import Derived.Test.YtjjjfmnhdnajkaaGreatDoorMg11
namespace Go.Proofs.YtjjjfmnhdnajkaaGreatDoor
open Go.RowKit
set_option linter.unusedVariables false

theorem Only.putObj {S : List Nat} {a w : World} (h : Only S a w) {l : Nat} (hl : l ∈ S ∨ a.heap.size ≤ l) (o : Obj) : Only S a (w.putObj l o) :=
  ⟨h.os, h.tape, h.output, by have := h.size; simp; omega, fun k hk hs => by
    rw [World.putObj_heap_other (fun e => by rcases hl with hl | hl; exact hs (e ▸ hl); omega)]
    exact h.block k hk hs⟩
/-- The blocks of M lie as they lay. -/
def Same (M : List Nat) (w w' : World) : Prop := ∀ k, k ∈ M → w'.heap[k]? = w.heap[k]?
theorem Same.refl (M : List Nat) (w : World) : Same M w w := fun _ _ => rfl
theorem Same.trans {M : List Nat} {a b c : World} (h : Same M a b) (k : Same M b c) : Same M a c := fun i hi => (k i hi).trans (h i hi)
theorem Only.same {S M : List Nat} {w w' : World} (h : Only S w w') (hM : ∀ k, k ∈ M → k ∉ S ∧ k < w.heap.size) : Same M w w' := fun k hk => h.block k (hM k hk).2 (hM k hk).1
theorem same_putObj {M : List Nat} (w : World) (l : Nat) (o : Obj) (h : l ∉ M) : Same M w (w.putObj l o) := fun k hk => World.putObj_heap_other (fun e => h (e ▸ hk))
/-- What is said of worlds abides what turns the blocks of S, and makes new ones. -/
def Holds2 {β : Type} (S : List Nat) (I : β → World → Prop) : Prop := ∀ s A B, I s A → Only S A B → I s B
theorem Holds2.sub {β : Type} {S T : List Nat} {I : β → World → Prop} (h : Holds2 S I) (hs : ∀ x, x ∈ T → x ∈ S) : Holds2 T I := fun s A B hi k => h s A B hi (k.mono (fun x _ hx => hs x hx))

/-- An iterator's contract: between two rounds it turns the blocks of T, and makes memory; a round keeps the blocks of M; S, Sp say what has come, and what the world is behind. -/
def SeqTurn {α : Type} (n : Nat) (P : Program) (g : Nat) (lb : Array Value) (encs : α → Array Value) (T M : List Nat) (S Sp : List α → World → Prop) (N : Nat) (w : World) : Prop :=
  ∀ (l : Nat) (J Jx : List α → World → Prop) (W : World), Only [] w W → Holds2 T J → Holds2 T Jx →
    (∀ pre x W1, J pre W1 → pre.length < N → YieldAt Fence.wide (n - 1) P l (encs x) W1 fun e W' =>
      (e = .returned (.bool true) ∧ J (pre ++ [x]) W' ∧ Same M W1 W') ∨ (e = .returned (.bool false) ∧ Jx (pre ++ [x]) W' ∧ Same M W1 W')) →
    J [] W →
    CallsIn Fence.wide n P g (#[.func (.yield l) #[] #[]] ++ lb) W fun e W' => (∃ v, e = .returned v) ∧ ((∃ xs, S xs W' ∧ J xs W') ∨ (∃ pre, Sp pre W' ∧ Jx pre W'))

/-- How the body of a round may be left: on to the next one, or by a return. -/
def turnPost {α : Type} (M : List Nat) (I Ix : List α → World → Prop) (xs : List α) (W : World) : Exit → Act → World → Prop
  | .normal, _, W' => Same M W W' ∧ I xs W'
  | .ret, _, W' => Same M W W' ∧ Ix xs W'
  | _, _, _ => False

theorem wpIn_range_turn {α : Type} {n : Nat} {P : Program} {w : World} {g : Operand} {ps : Array Tmp} {assign body : Code} {Q : Exit → Act → World → Prop} {a : Act}
    {gf : Nat} {lb : Array Value} (hg : a.eval g = .func (.func gf) #[] lb) (eg : ∀ args w, (callFunc gf args).run P w = .ok (.enter gf args) w)
    {encs : α → Array Value} {T M : List Nat} {S Sp : List α → World → Prop} {N : Nat} {w0 : World} (hseq : SeqTurn (n - 1) P gf lb encs T M S Sp N w0) (hb0 : Only [] w0 w) (hps : ∀ x, (encs x).size = ps.size)
    (hT : ∀ k, k ∈ T → k < w.heap.size) (hM : ∀ k, k ∈ M → k < w.heap.size)
    (I Ix : List α → World → Prop) (hI : Holds2 (w.heap.size :: (w.heap.size + 1) :: T) I) (hIx : Holds2 (w.heap.size :: (w.heap.size + 1) :: T) Ix) (h0 : I [] w)
    (hS : Holds2 [w.heap.size, w.heap.size + 1] S) (hSp : Holds2 [w.heap.size, w.heap.size + 1] Sp)
    (Ax : List α → α → Act → World → Prop) (hAx : ∀ pre x a', Holds2 [w.heap.size, w.heap.size + 1] (fun (_ : Unit) W => Ax pre x a' W))
    (hassign : ∀ (l : Nat) (pre : List α) (x : α) (W : World) (K : Act → World → Prop), I pre W → (w.heap.size + 1 < W.heap.size) → (∀ a' W', Same (w.heap.size :: (w.heap.size + 1) :: M) W W' → w.heap.size + 1 < W'.heap.size → I pre W' → Ax pre x a' W' → K a' W') →
      assign.wpIn (Fence.wide.inRound l) (n - 1 - 1) P (Exit.then K (fun _ _ _ => False)) { tmps := (ps.zip (encs x)).foldl (fun t (p, v) => t.setIfInBounds p v) a.tmps, defers := [] } W)
    (hbody : ∀ (l : Nat) (pre : List α) (x : α) (a' : Act) (W : World), I pre W → Ax pre x a' W → w.heap.size + 1 < W.heap.size → pre.length < N → body.wpIn (Fence.wide.inRound l) (n - 1 - 1) P (turnPost (w.heap.size :: (w.heap.size + 1) :: M) I Ix (pre ++ [x]) W) a' W)
    (hdone : ∀ (xs : List α) (W : World), S xs W → I xs W → W.heap[w.heap.size]? = some (.deferred (some [])) → Q .normal { a with defers := { target := .collected w.heap.size, args := #[] } :: a.defers } W)
    (hstop : ∀ (pre : List α) (W : World), Sp pre W → Ix pre W → W.heap[w.heap.size]? = some (.deferred (some [])) → Code.ret.wpIn Fence.wide n P Q { a with defers := { target := .collected w.heap.size, args := #[] } :: a.defers } W) :
    (Code.rangeFunc g ps assign body).wpIn Fence.wide n P Q a w := by
  refine wpIn_rangeFunc fun fn hfn => ?_
  obtain ⟨rec, hrec⟩ : ∃ rec : LoopState → Option Code → Loop, rec = fun st pe => { state := st, pending := pe, fn, tmps := a.tmps, params := ps, assign, body, defers := w.heap.size } := ⟨_, rfl⟩
  have hD : (((w.alloc (.deferred (some []))).alloc (.loop (rec .ready none))).heap)[w.heap.size]? = some (.deferred (some [])) := (Below.heap_alloc _ _ _ (by simp)).trans (World.alloc_heap_new w _)
  have hL : (((w.alloc (.deferred (some []))).alloc (.loop (rec .ready none))).heap)[w.heap.size + 1]? = some (.loop (rec .ready none)) := by
    have := World.alloc_heap_new (w.alloc (.deferred (some []))) (.loop (rec .ready none))
    rwa [World.size_alloc] at this
  have hO : Only [] w ((w.alloc (.deferred (some []))).alloc (.loop (rec .ready none))) := ((Only.refl _ _).alloc _).alloc _
  have hent := run_enterLoop_outer (P := P) (w := w) fn a.tmps ps assign body
  rw [show ({ state := .ready, pending := none, fn := fn, tmps := a.tmps, params := ps, assign := assign, body := body, defers := w.heap.size } : Loop) = rec .ready none from by rw [hrec]] at hent
  generalize hW1 : (w.alloc (.deferred (some []))).alloc (.loop (rec .ready none)) = W1 at *
  have sz1 : w.heap.size + 1 < W1.heap.size := (Array.getElem?_eq_some_iff.1 hL).1
  -- what stands beside the caller's own words
  have keepT : ∀ {A B : World} {k : Nat} {o : Obj}, A.heap[k]? = some o → w.heap.size ≤ k → Only T A B → B.heap[k]? = some o := fun hk hl h =>
    (h.block _ (Array.getElem?_eq_some_iff.1 hk).1 (fun e => by have := hT _ e; omega)).trans hk
  refine ⟨w.heap.size + 1, [{ target := .collected w.heap.size, args := #[] }], W1, { target := .fn (.func gf) lb, args := #[.func (.yield (w.heap.size + 1)) #[] #[]] }, W1, gf, #[.func (.yield (w.heap.size + 1)) #[] #[]] ++ lb, W1, hent, ?_, ?_, ?_, ?_, ?_⟩
  · simp only [resolve, hg]
    simp [go_sem]
  · intro f' hf'
    trivial
  · simp [invoke, go_sem, eg]
  · intro h
    cases h
  refine (hseq (w.heap.size + 1)
    (fun pre W => I pre W ∧ W.heap[w.heap.size + 1]? = some (.loop (rec .ready none)) ∧ W.heap[w.heap.size]? = some (.deferred (some [])))
    (fun pre W => Ix pre W ∧ W.heap[w.heap.size + 1]? = some (.loop (rec .done (some .ret))) ∧ W.heap[w.heap.size]? = some (.deferred (some [])))
    W1 (hb0.trans hO)
    (fun s A B hs k => ⟨hI s A B hs.1 (k.mono (fun x _ hx => by simp [hx])), keepT hs.2.1 (by omega) k, keepT hs.2.2 (by omega) k⟩)
    (fun s A B hs k => ⟨hIx s A B hs.1 (k.mono (fun x _ hx => by simp [hx])), keepT hs.2.1 (by omega) k, keepT hs.2.2 (by omega) k⟩)
    ?_ ⟨hI _ _ _ h0 (hO.mono (by simp)), hL, hD⟩).mono ?_
  · rintro pre x W ⟨hi, hl, hd⟩ hlen
    have hlt : w.heap.size + 1 < W.heap.size := (Array.getElem?_eq_some_iff.1 hl).1
    have hy := run_yield (P := P) (args := encs x) hl (by rw [hrec]; exact hps x)
    rw [hrec] at hy
    refine ⟨fn, _, assign, body, hy, roundIn_of_wpIn hfn (hassign _ pre x W _ hi hlt ?_)⟩
    intro a' Wa hka hsa hia hax
    have hla := (hka (w.heap.size + 1) (by simp)).trans hl
    have hda := (hka w.heap.size (by simp)).trans hd
    refine ⟨_, run_beginRound hla (by rw [hrec]), ?_⟩
    have hob := (Only.refl [w.heap.size, w.heap.size + 1] Wa).putObj (l := w.heap.size + 1) (.inl (by simp)) (.loop { rec .ready none with state := .busy })
    have hlb : (Wa.putObj (w.heap.size + 1) (.loop { rec .ready none with state := .busy })).heap[w.heap.size + 1]? = some (.loop { rec .ready none with state := .busy }) := World.putObj_heap_same hsa
    have hdb : (Wa.putObj (w.heap.size + 1) (.loop { rec .ready none with state := .busy })).heap[w.heap.size]? = some (.deferred (some [])) := (World.putObj_heap_other (by omega)).trans hda
    have hmb : Same M Wa (Wa.putObj (w.heap.size + 1) (.loop { rec .ready none with state := .busy })) := same_putObj _ _ _ (fun e => by have := hM _ e; omega)
    generalize hWb : Wa.putObj (w.heap.size + 1) (.loop { rec .ready none with state := .busy }) = Wb at *
    have hM1 : ∀ {A B : World}, Same (w.heap.size :: (w.heap.size + 1) :: M) A B → Same M A B := fun h k hk => h k (by simp [hk])
    refine wpIn_mono (hbody _ pre x a' Wb (hI _ _ _ hia (hob.mono (fun k _ hk => by simp at hk ⊢; omega))) (hAx pre x a' () _ _ hax hob) (Array.getElem?_eq_some_iff.1 hlb).1 hlen) ?_
    rintro e a3 W3 hp
    cases e with
    | normal =>
      obtain ⟨hk3, hi3⟩ := hp
      have hl3 := (hk3 (w.heap.size + 1) (by simp)).trans hlb
      have hd3 := (hk3 w.heap.size (by simp)).trans hdb
      have he := run_endRound (P := P) none hl3
      have hlt3 := (Array.getElem?_eq_some_iff.1 hl3).1
      refine ⟨_, _, he, .inl ⟨rfl, ⟨hI _ _ _ hi3 ((Only.refl _ _).putObj (.inl (by simp)) _), ?_, (World.putObj_heap_other (by omega)).trans hd3⟩, ?_⟩⟩
      · rw [World.putObj_heap_same hlt3, hrec]; rfl
      · exact (hM1 hka).trans (hmb.trans ((hM1 hk3).trans (same_putObj _ _ _ (fun e => by have := hM _ e; omega))))
    | ret =>
      obtain ⟨hk3, hi3⟩ := hp
      have hl3 := (hk3 (w.heap.size + 1) (by simp)).trans hlb
      have hd3 := (hk3 w.heap.size (by simp)).trans hdb
      have he := run_endRound (P := P) (some .ret) hl3
      have hlt3 := (Array.getElem?_eq_some_iff.1 hl3).1
      refine ⟨_, _, he, .inr ⟨rfl, ⟨hIx _ _ _ hi3 ((Only.refl _ _).putObj (.inl (by simp)) _), ?_, (World.putObj_heap_other (by omega)).trans hd3⟩, ?_⟩⟩
      · rw [World.putObj_heap_same hlt3, hrec]; rfl
      · exact (hM1 hka).trans (hmb.trans ((hM1 hk3).trans (same_putObj _ _ _ (fun e => by have := hM _ e; omega))))
    | _ => exact hp.elim
  · rintro e W2 ⟨⟨v, rfl⟩, (⟨xs, hs, hi, hl, hd⟩ | ⟨pre, hs, hi, hl, hd⟩)⟩
    · have he := run_endLoop (P := P) hl (by rw [hrec]; simp)
      refine ⟨none, _, by rw [he, hrec], hdone xs _ (hS _ _ _ hs ((Only.refl _ _).putObj (.inl (by simp)) _)) (hI _ _ _ hi ((Only.refl _ _).putObj (.inl (by simp)) _)) ((World.putObj_heap_other (by omega)).trans hd)⟩
    · have he := run_endLoop (P := P) hl (by rw [hrec]; simp)
      refine ⟨some .ret, _, by rw [he, hrec], hstop pre _ (hSp _ _ _ hs ((Only.refl _ _).putObj (.inl (by simp)) _)) (hIx _ _ _ hi ((Only.refl _ _).putObj (.inl (by simp)) _)) ((World.putObj_heap_other (by omega)).trans hd)⟩
end Go.Proofs.YtjjjfmnhdnajkaaGreatDoor
namespace Go.Proofs.YtjjjfmnhdnajkaaGreatDoor
open Go.RowKit Go.Shelf
set_option linter.unusedVariables false
attribute [local go_sem] Oper.semAt_some

theorem Rd.same {w w' : World} {b : Nat} {s : ByteArray} {pos : Nat} (h : Rd w b s pos) (e : w'.heap[b]? = w.heap[b]?) : Rd w' b s pos :=
  ⟨(World.cell?_of_block (a := ⟨b, 0, none⟩) e).trans h.hs, (World.cell?_of_block (a := ⟨b, 1, none⟩) e).trans h.hp, (World.frozen?_of_block (a := ⟨b, 1, none⟩) e).trans h.hf, h.le, h.sz⟩
theorem KAt.same {w w' : World} {b : Nat} {m : Bool} (h : KAt w b m) (e : w'.heap[b]? = w.heap[b]?) : KAt w' b m := fun j v hj => (World.cell?_of_block (a := ⟨b, j, none⟩) e).trans (h j v hj)

/-- What comes: a command and no error, or an error. -/
abbrev Cm := (Int × Int × Int) × Int
def cmV (x : Cm) : Array Value := #[.agg #[.int .u8 x.1.1, .int .i64 x.1.2.1, .int .i64 x.1.2.2], .int .i64 x.2]
def fine (l : List (Int × Int × Int)) : List Cm := l.map fun x => (x, 0)
theorem fine_snoc (l : List (Int × Int × Int)) (x : Int × Int × Int) : fine l ++ [(x, 0)] = fine (l ++ [x]) := by simp [fine]
/-- All have come. -/
def CmAll (m : Bool) (b : Nat) (s : ByteArray) (pos : Nat) (xs : List Cm) (W : World) : Prop :=
  (∃ l q, xs = fine l ∧ readF m s 66 pos = (l, 0, q) ∧ Rd W b s q) ∨ ∃ l y er, xs = l ++ [(y, er)] ∧ er ≠ 0
/-- A round has said that no more is wanted. -/
def CmSome (m : Bool) (b : Nat) (s : ByteArray) (pos : Nat) (xs : List Cm) (W : World) : Prop := ∃ l y er q, xs = fine l ++ [(y, er)] ∧ Rd W b s q ∧ (er ≠ 0 → readF m s 66 pos = ([], er, 0))
/-- Between two rounds of the iterator. -/
def CmAt (m : Bool) (b kb rb : Nat) (s : ByteArray) (pos : Nat) (J : List Cm → World → Prop) (k : Nat) (W : World) : Prop :=
  ∃ (l : List (Int × Int × Int)) (q : Nat), l.length = k ∧ k ≤ 66 ∧ joinT l (readF m s (66 - k) q) = readF m s 66 pos ∧ Rd W b s q ∧ KAt W kb m ∧ W.cell? ⟨rb, 0, none⟩ = some (.pointer (some ⟨b, 0, none⟩)) ∧ J (fine l) W
theorem joinT_err (l : List (Int × Int × Int)) (er : Int) (h : er ≠ 0) : joinT l ([], er, 0) = ([], er, 0) := by simp [joinT, h]

set_option maxRecDepth 100000 in
set_option maxHeartbeats 4000000 in
theorem cm1_in (n : Nat) (hn : 1 ≤ n) (l b kb rb : Nat) (m : Bool) (s : ByteArray) (pos : Nat) (J Jx : List Cm → World → Prop) (hJ : Holds2 [b] J) (hJx : Holds2 [b] Jx)
    (hY : ∀ pre x W, J pre W → pre.length < 67 → YieldAt Fence.wide (n - 1) Tryz.prog l (cmV x) W fun e W' =>
      (e = .returned (.bool true) ∧ J (pre ++ [x]) W' ∧ Same [b, kb, rb] W W') ∨ (e = .returned (.bool false) ∧ Jx (pre ++ [x]) W' ∧ Same [b, kb, rb] W W'))
    (W : World) (hR : Rd W b s pos) (hK : KAt W kb m) (hB : W.cell? ⟨rb, 0, none⟩ = some (.pointer (some ⟨b, 0, none⟩))) (hkb : kb ≠ b) (hrb : rb ≠ b) (h0 : J [] W) :
    CallsIn Fence.wide n Tryz.prog 160 #[.func (.yield l) #[] #[], .pointer (some ⟨rb, 0, none⟩), .pointer (some ⟨kb, 0, none⟩)] W fun e W' => (∃ v, e = .returned v) ∧
      ((∃ xs, CmAll m b s pos xs W' ∧ J xs W') ∨ (∃ pre, CmSome m b s pos pre W' ∧ Jx pre W')) := by
  have YY := hid hY
  have HJ := hid hJ
  have HJx := hid hJx
  clear hY hJ hJx
  have H0 := hid (show CmAt m b kb rb s pos J 0 W from ⟨[], pos, rfl, by omega, joinT_readF m s 66 pos, hR, hK, hB, h0⟩)
  clear hR hK hB h0
  refine callsIn_of_wp Tryz.func160 rfl trivial ?_ rfl
  simp only [Tryz.ntmps160, List.size_toArray, List.length_cons, List.length_nil, Nat.reduceAdd, Nat.reduceSub, Array.replicate_succ, Array.replicate_zero, List.push_toArray, List.append_toArray, List.nil_append, List.cons_append]
  gi_wp2
  gi_loopw [4] (fun z wr => ∃ k : Nat, z = .int .i64 k ∧ CmAt m b kb rb s pos J k wr) (fun z _ => 66 - (intOf z).toNat)
  case atStart => exact ⟨0, rfl, H0.out⟩
  case round =>
    obtain ⟨k, rfl, c, q, hl, hk, hj, hR, hK, hB, hJs⟩ := hrel
    have K0 := hid hK
    have R0 := hid hR
    have JR := hid hj
    have JS := hid hJs
    have LK := hid hl
    have k0 : (0 : Int) ≤ (k : Int) := by omega
    have k66 : (k : Int) ≤ 66 := by omega
    have KK := hid hk
    obtain ⟨op, ev, q1, hv⟩ : ∃ op ev q1, rdUk s q 0 = (op, ev, q1) := ⟨_, _, _, rfl⟩
    have V := hid hv
    have UC := hid (ue_three b s q _ hR op ev q1 hv)
    clear hK hR hj hJs hl hk hv
    by_cases he : ev = 0
    · subst he
      by_cases hop : op = endN m
      · have ST : stepI m s (decide (66 - k = 0)) q = (0, none, q1) := by
          unfold stepI
          rw [V.out, if_neg (fun x => x rfl), if_pos hop]
        have AL := hid (show readF m s 66 pos = (c, 0, q1) by rw [← JR.out, readF_end ST, joinT_join]; simp [joinT])
        clear ST
        cases m with
        | false =>
          have h3 : op = 3 := hop
          clear hop
          subst h3
          gi_wp2_with fail
          refine ⟨trivial, (callsIn_wide.2 UC.out).mono ?_⟩
          rintro e w5 ⟨rfl, hR5, hO5⟩
          have R5 := hid hR5
          have J5 := hid (HJ.out _ _ _ JS.out hO5)
          have kk := (K0.out.only hO5 (by simpa using hkb)) 0 (.int .u64 3) rfl
          clear hR5 hO5 UC K0 R0 JS
          gi_wp2_with fail
          refine bodyPost_ret (results_none rfl _ _ _) rfl ?_
          exact ⟨⟨_, rfl⟩, .inl ⟨_, .inl ⟨c, q1, rfl, AL.out, R5.out⟩, J5.out⟩⟩
        | true =>
          have h3 : op = 0 := hop
          clear hop
          subst h3
          gi_wp2_with fail
          refine ⟨trivial, (callsIn_wide.2 UC.out).mono ?_⟩
          rintro e w5 ⟨rfl, hR5, hO5⟩
          have R5 := hid hR5
          have J5 := hid (HJ.out _ _ _ JS.out hO5)
          have kk := (K0.out.only hO5 (by simpa using hkb)) 0 (.int .u64 0) rfl
          clear hR5 hO5 UC K0 R0 JS
          gi_wp2_with fail
          refine bodyPost_ret (results_none rfl _ _ _) rfl ?_
          exact ⟨⟨_, rfl⟩, .inl ⟨_, .inl ⟨c, q1, rfl, AL.out, R5.out⟩, J5.out⟩⟩
      · have HOP := hid hop
        have CC := hid (fun w h => command_any m b s q op q1 k w h V.out hop KK.out R0.out.le)
        have ne : ¬ (op : Int) = (endN m : Nat) := by omega
        have NE := hid ne
        clear ne hop
        gi_wp2_with fail
        refine ⟨trivial, (callsIn_wide.2 UC.out).mono ?_⟩
        rintro e w5 ⟨rfl, hR5, hO5⟩
        have R5 := hid hR5
        have J5 := hid (HJ.out _ _ _ JS.out hO5)
        have K5 := hid (K0.out.only hO5 (by simpa using hkb))
        have B5 := hid (hO5.cell hB (by simpa using hrb))
        clear hR5 hO5 UC K0 R0 JS hB
        have M6 := hid (mf_new w5 37 (0, 0, 0))
        have O6 := (Only.refl [] w5).alloc (Obj.cells #[.int .u8 0, .int .i64 0, .int .i64 0] 37)
        have R6 := hid (R5.out.only O6 (by simp))
        have J6 := hid (HJ.out _ _ _ J5.out (O6.mono (T := [b]) (by simp)))
        have K6 := hid (K5.out.only O6 (by simp))
        have b6 := O6.cell B5.out (by simp)
        have D6 := hid (show w5.heap.size ∉ [b] ∧ w5.heap.size ≠ kb ∧ w5.heap.size ≠ rb by
          have h1 := R5.out.lt
          have h2 := K5.out.lt
          have h3 := World.block_lt_of_cell? _ _ B5.out
          simp only at h3
          exact ⟨by simp; omega, by omega, by omega⟩)
        have O5A := hid O6
        clear O6
        have b5 := B5.out
        have ne : ¬ (op : Int) = (endN m : Nat) := by have := HOP.out; omega
        cases m with
        | false =>
          have ne : ¬ (op : Int) = 3 := ne
          have kk := K5.out 0 (.int .u64 3) rfl
          obtain ⟨⟨k0, k1, k2, k3⟩, k4, k5, k6, k7⟩ := K6.out.k0
          simp only [kindV, kindC] at CC
          gi_wp2_with fail
          refine ⟨trivial, (callsIn_wide.2 (CC.out _ R6.out)).mono ?_⟩
          rintro e w7 ⟨y1, y2, y3, er, rfl, p, hR7, hO7, hC⟩
          have O7 := hid hO7
          have C7 := hid hC
          have M7 := M6.out.only hO7 D6.out.1
          have MS := hid (M7.set (y1, y2, y3))
          obtain ⟨m0, m1, m2, f0, f1, f2⟩ := M7
          have R8 := hid (hR7.only MS.out.2 (by have := D6.out.1; simp at this ⊢; omega))
          have K8 := hid ((K6.out.only hO7 (by simpa using hkb)).only MS.out.2 (by have := D6.out.2.1; simp; omega))
          have B8 := hid (MS.out.2.cell (O7.out.cell b6 (by simpa using hrb)) (by have := D6.out.2.2; simp; omega))
          have J7 := hid (HJ.out _ _ _ J6.out hO7)
          have P8 := hid (HJ.out _ _ _ J5.out (((O5A.out.mono (T := [b]) (by simp)).trans hO7).trans2 MS.out.2 (fun x hx => .inr (by rw [List.mem_singleton.1 hx]; exact Nat.le_refl _))))
          obtain ⟨fn, tmps, assign, body, hy, hY⟩ := YY.out _ ((y1, y2, y3), er) _ P8.out (by have := LK.out; have := KK.out; simp [fine]; omega)
          have RY := hid hY
          simp only [cmV] at hy
          clear hR7 hO7 hC hY b5 kk ne k0 k1 k2 k3 k4 k5 k6 k7 b6 CC
          by_cases hr : er = 0
          · subst hr
            have ST := C7.out.ok rfl
            have hk6 : k ≠ 66 := fun e => by rw [e] at ST; exact step_full ST
            have NX := hid (show joinT (c ++ [(y1, y2, y3)]) (readF false s (66 - (k + 1)) p) = readF false s 66 pos by
              rw [show decide (k = 66) = false by simpa using hk6] at ST
              rw [← JR.out, show 66 - k = (66 - (k + 1)) + 1 by have := KK.out; omega, readF_more ST, joinT_join])
            have KN := hid (show k + 1 ≤ 66 by have := KK.out; omega)
            clear ST hk6
            gi_wp2_with fail
            refine RY.out.mono ?_
            rintro e W3 (⟨rfl, hJ3, hk3⟩ | ⟨rfl, hJ3, hk3⟩)
            · have J9 := hid hJ3
              have R9 := hid (R8.out.same (hk3 b (by simp)))
              have K9 := hid (K8.out.same (hk3 kb (by simp)))
              have B9 := hid ((World.cell?_of_block (a := ⟨rb, 0, none⟩) (hk3 rb (by simp))).trans B8.out)
              clear hJ3 hk3 hy m0 m1 m2 f0 f1 f2
              gi_wp2_with fail
              go_roundw
              case rel => exact ⟨k + 1, by simp, _, p, by simp [LK.out], KN.out, NX.out, R9.out, K9.out, B9.out, by rw [← fine_snoc]; exact J9.out⟩
              case measure => have := KN.out; simp [intOf]; omega
            · gi_wp2_with fail
              refine bodyPost_ret (results_none rfl _ _ _) rfl ?_
              exact ⟨⟨_, rfl⟩, .inr ⟨_, ⟨_, _, _, _, rfl, R8.out.same (hk3 b (by simp)), fun e => absurd rfl e⟩, hJ3⟩⟩
          · have E9 := hid hr
            have ER := hid (show readF false s 66 pos = ([], er, 0) by
              have ST := C7.out.no hr
              have e6 : decide (k = 66) = decide (66 - k = 0) := by have := KK.out; congr 1; exact propext ⟨fun e => by omega, fun e => by omega⟩
              rw [e6] at ST
              rw [← JR.out, readF_end ST, joinT_join, List.append_nil, joinT_err _ _ hr])
            gi_wp2_with fail
            refine RY.out.mono ?_
            rintro e W3 (⟨rfl, hJ3, hk3⟩ | ⟨rfl, hJ3, hk3⟩)
            · gi_wp2_with fail
              refine bodyPost_ret (results_none rfl _ _ _) rfl ?_
              exact ⟨⟨_, rfl⟩, .inl ⟨_, .inr ⟨_, _, _, rfl, E9.out⟩, hJ3⟩⟩
            · gi_wp2_with fail
              refine bodyPost_ret (results_none rfl _ _ _) rfl ?_
              exact ⟨⟨_, rfl⟩, .inr ⟨_, ⟨_, _, _, _, rfl, R8.out.same (hk3 b (by simp)), fun _ => ER.out⟩, hJ3⟩⟩
        | true =>
          have ne : ¬ (op : Int) = 0 := ne
          have kk := K5.out 0 (.int .u64 0) rfl
          obtain ⟨⟨k0, k1, k2, k3⟩, k4, k5, k6, k7⟩ := K6.out.k1
          simp only [kindV, kindC] at CC
          gi_wp2_with fail
          refine ⟨trivial, (callsIn_wide.2 (CC.out _ R6.out)).mono ?_⟩
          rintro e w7 ⟨y1, y2, y3, er, rfl, p, hR7, hO7, hC⟩
          have O7 := hid hO7
          have C7 := hid hC
          have M7 := M6.out.only hO7 D6.out.1
          have MS := hid (M7.set (y1, y2, y3))
          obtain ⟨m0, m1, m2, f0, f1, f2⟩ := M7
          have R8 := hid (hR7.only MS.out.2 (by have := D6.out.1; simp at this ⊢; omega))
          have K8 := hid ((K6.out.only hO7 (by simpa using hkb)).only MS.out.2 (by have := D6.out.2.1; simp; omega))
          have B8 := hid (MS.out.2.cell (O7.out.cell b6 (by simpa using hrb)) (by have := D6.out.2.2; simp; omega))
          have J7 := hid (HJ.out _ _ _ J6.out hO7)
          have P8 := hid (HJ.out _ _ _ J5.out (((O5A.out.mono (T := [b]) (by simp)).trans hO7).trans2 MS.out.2 (fun x hx => .inr (by rw [List.mem_singleton.1 hx]; exact Nat.le_refl _))))
          obtain ⟨fn, tmps, assign, body, hy, hY⟩ := YY.out _ ((y1, y2, y3), er) _ P8.out (by have := LK.out; have := KK.out; simp [fine]; omega)
          have RY := hid hY
          simp only [cmV] at hy
          clear hR7 hO7 hC hY b5 kk ne k0 k1 k2 k3 k4 k5 k6 k7 b6 CC
          by_cases hr : er = 0
          · subst hr
            have ST := C7.out.ok rfl
            have hk6 : k ≠ 66 := fun e => by rw [e] at ST; exact step_full ST
            have NX := hid (show joinT (c ++ [(y1, y2, y3)]) (readF true s (66 - (k + 1)) p) = readF true s 66 pos by
              rw [show decide (k = 66) = false by simpa using hk6] at ST
              rw [← JR.out, show 66 - k = (66 - (k + 1)) + 1 by have := KK.out; omega, readF_more ST, joinT_join])
            have KN := hid (show k + 1 ≤ 66 by have := KK.out; omega)
            clear ST hk6
            gi_wp2_with fail
            refine RY.out.mono ?_
            rintro e W3 (⟨rfl, hJ3, hk3⟩ | ⟨rfl, hJ3, hk3⟩)
            · have J9 := hid hJ3
              have R9 := hid (R8.out.same (hk3 b (by simp)))
              have K9 := hid (K8.out.same (hk3 kb (by simp)))
              have B9 := hid ((World.cell?_of_block (a := ⟨rb, 0, none⟩) (hk3 rb (by simp))).trans B8.out)
              clear hJ3 hk3 hy m0 m1 m2 f0 f1 f2
              gi_wp2_with fail
              go_roundw
              case rel => exact ⟨k + 1, by simp, _, p, by simp [LK.out], KN.out, NX.out, R9.out, K9.out, B9.out, by rw [← fine_snoc]; exact J9.out⟩
              case measure => have := KN.out; simp [intOf]; omega
            · gi_wp2_with fail
              refine bodyPost_ret (results_none rfl _ _ _) rfl ?_
              exact ⟨⟨_, rfl⟩, .inr ⟨_, ⟨_, _, _, _, rfl, R8.out.same (hk3 b (by simp)), fun e => absurd rfl e⟩, hJ3⟩⟩
          · have E9 := hid hr
            have ER := hid (show readF true s 66 pos = ([], er, 0) by
              have ST := C7.out.no hr
              have e6 : decide (k = 66) = decide (66 - k = 0) := by have := KK.out; congr 1; exact propext ⟨fun e => by omega, fun e => by omega⟩
              rw [e6] at ST
              rw [← JR.out, readF_end ST, joinT_join, List.append_nil, joinT_err _ _ hr])
            gi_wp2_with fail
            refine RY.out.mono ?_
            rintro e W3 (⟨rfl, hJ3, hk3⟩ | ⟨rfl, hJ3, hk3⟩)
            · gi_wp2_with fail
              refine bodyPost_ret (results_none rfl _ _ _) rfl ?_
              exact ⟨⟨_, rfl⟩, .inl ⟨_, .inr ⟨_, _, _, rfl, E9.out⟩, hJ3⟩⟩
            · gi_wp2_with fail
              refine bodyPost_ret (results_none rfl _ _ _) rfl ?_
              exact ⟨⟨_, rfl⟩, .inr ⟨_, ⟨_, _, _, _, rfl, R8.out.same (hk3 b (by simp)), fun _ => ER.out⟩, hJ3⟩⟩
    · have E0 := hid he
      gi_wp2_with fail
      refine ⟨trivial, (callsIn_wide.2 UC.out).mono ?_⟩
      rintro e w5 ⟨rfl, hR5, hO5⟩
      have R5 := hid hR5
      have J5 := hid (HJ.out _ _ _ JS.out hO5)
      clear hR5 hO5 UC K0 R0 JS hB
      have J6 := HJ.out _ _ _ J5.out (((Only.refl [] w5).alloc (Obj.cells #[.int .u8 0, .int .i64 0, .int .i64 0] 37)).mono (T := [b]) (by simp))
      have R6 := hid (R5.out.only ((Only.refl [] w5).alloc (Obj.cells #[.int .u8 0, .int .i64 0, .int .i64 0] 37)) (by simp))
      obtain ⟨fn, tmps, assign, body, hy, hY⟩ := YY.out _ ((0, 0, 0), ev) _ J6 (by have := LK.out; have := KK.out; simp [fine]; omega)
      have RY := hid hY
      clear J5 R5 J6 hY
      simp only [cmV] at hy
      have he' := E0.out
      have ER := hid (show readF m s 66 pos = ([], ev, 0) by
        have ST : stepI m s (decide (66 - k = 0)) q = (ev, none, 0) := by
          unfold stepI
          rw [V.out, if_pos E0.out]
        rw [← JR.out, readF_end ST, joinT_join, List.append_nil, joinT_err _ _ E0.out])
      gi_wp2_with fail
      refine RY.out.mono ?_
      rintro e W3 (⟨rfl, hJ3, hk3⟩ | ⟨rfl, hJ3, hk3⟩)
      · gi_wp2_with fail
        refine bodyPost_ret (results_none rfl _ _ _) rfl ?_
        exact ⟨⟨_, rfl⟩, .inl ⟨_, .inr ⟨_, _, _, rfl, E0.out⟩, hJ3⟩⟩
      · gi_wp2_with fail
        refine bodyPost_ret (results_none rfl _ _ _) rfl ?_
        exact ⟨⟨_, rfl⟩, .inr ⟨_, ⟨_, _, _, _, rfl, R6.out.same (hk3 b (by simp)), fun _ => ER.out⟩, hJ3⟩⟩

set_option maxHeartbeats 1000000 in
/-- commands: the kind and the reader are boxed; the function value captures the boxes. -/
theorem commands_any (m : Bool) (b : Nat) (w : World) :
    Calls Tryz.prog 156 #[kindV m, .pointer (some ⟨b, 0, none⟩)] w fun e w' =>
      e = .returned (.func (.func 160) #[] #[.pointer (some ⟨w.heap.size + 1, 0, none⟩), .pointer (some ⟨w.heap.size, 0, none⟩)]) ∧ KAt w' w.heap.size m ∧ w'.cell? ⟨w.heap.size + 1, 0, none⟩ = some (.pointer (some ⟨b, 0, none⟩)) ∧ w'.heap.size = w.heap.size + 1 + 1 ∧ Only [] w w' := by
  have hmf : ∀ (fn : Fn) (first cap : Array Value) (w : World), (Instr.makeFunc fn first cap).run Tryz.prog w = .ok (.func fn first cap) w := fun _ _ _ _ => rfl
  have KN := hid (kat_new w m 186)
  cases m
  all_goals
    simp only [kindV, kindC] at KN ⊢
    go_enter Tryz.func156, Tryz.ntmps156
    go_wp2_with fail
    go_ret
    refine ⟨rfl, KN.out.1.only ((Only.refl [] _).alloc _) (by simp), by simp, by simp, KN.out.2.alloc _⟩

/-- The iterator's contract. -/
theorem cm_turn (n : Nat) (hn : 1 ≤ n) (b kb rb : Nat) (m : Bool) (s : ByteArray) (pos : Nat) (w : World) (hR : Rd w b s pos) (hK : KAt w kb m) (hB : w.cell? ⟨rb, 0, none⟩ = some (.pointer (some ⟨b, 0, none⟩))) (hkb : kb ≠ b) (hrb : rb ≠ b) :
    SeqTurn n Tryz.prog 160 #[.pointer (some ⟨rb, 0, none⟩), .pointer (some ⟨kb, 0, none⟩)] cmV [b] [b, kb, rb] (CmAll m b s pos) (CmSome m b s pos) 67 w := fun l J Jx W hW hJ hJx hY h0 =>
  cm1_in n hn l b kb rb m s pos J Jx hJ hJx hY W (hR.only hW (by simp)) (hK.only hW (by simp)) (hW.cell hB (by simp)) hkb hrb h0
end Go.Proofs.YtjjjfmnhdnajkaaGreatDoor

/- A range over a function that turns blocks of its own between two rounds (a reader, say): the iterator's contract, and what the caller owes. Plain: nothing of the translation stands here. -/
import Derived.Test.YtdkmeldcpamnnaaDoorObj
import Derived.RangeFuncNested
import Derived.RangeFuncBound
import Derived.RangeFuncCalls
import Derived.RangeFuncLeaves
import Derived.RangeFuncBox
namespace Go.Proofs.YtdkmeldcpamnnaaDoor
open Go.RowKit
set_option linter.unusedVariables false

theorem Only.putObj {S : List Nat} {a w : World} (h : Only S a w) {l : Nat} (hl : l ∈ S ∨ a.heap.size ≤ l) (o : Obj) : Only S a (w.putObj l o) :=
  ⟨h.os, h.tape, h.output, by have := h.size; simp; omega, fun k hk hs => by
    rw [World.putObj_heap_other (fun e => by rcases hl with hl | hl; exact hs (e ▸ hl); omega)]
    exact h.block k hk hs⟩
/-- The blocks of M lie as they lay. -/
def Same (M : List Nat) (w w' : World) : Prop := ∀ k, k ∈ M → w'.heap[k]? = w.heap[k]?
theorem Same.refl (M : List Nat) (w : World) : Same M w w := fun _ _ => rfl
theorem Same.trans {M : List Nat} {a b c : World} (h : Same M a b) (k : Same M b c) : Same M a c := fun i hi => (k i hi).trans (h i hi)
theorem Only.same {S M : List Nat} {w w' : World} (h : Only S w w') (hM : ∀ k, k ∈ M → k ∉ S ∧ k < w.heap.size) : Same M w w' := fun k hk => h.block k (hM k hk).2 (hM k hk).1
theorem same_putObj {M : List Nat} (w : World) (l : Nat) (o : Obj) (h : l ∉ M) : Same M w (w.putObj l o) := fun k hk => World.putObj_heap_other (fun e => h (e ▸ hk))
/-- What is said of worlds abides what turns the blocks of S, and makes new ones. -/
def Holds2 {β : Type} (S : List Nat) (I : β → World → Prop) : Prop := ∀ s A B, I s A → Only S A B → I s B
theorem Holds2.sub {β : Type} {S T : List Nat} {I : β → World → Prop} (h : Holds2 S I) (hs : ∀ x, x ∈ T → x ∈ S) : Holds2 T I := fun s A B hi k => h s A B hi (k.mono (fun x _ hx => hs x hx))

/-- An iterator's contract: between two rounds it turns the blocks of T, and makes memory; a round keeps the blocks of M; S, Sp say what has come, and what the world is behind. -/
def SeqTurn {α : Type} (n : Nat) (P : Program) (g : Nat) (lb : Array Value) (encs : α → Array Value) (T M : List Nat) (S Sp : List α → World → Prop) (N : Nat) (w : World) : Prop :=
  ∀ (l : Nat) (J Jx : List α → World → Prop) (W : World), Only [] w W → Holds2 T J → Holds2 T Jx →
    (∀ pre x W1, J pre W1 → pre.length < N → YieldAt Fence.wide (n - 1) P l (encs x) W1 fun e W' =>
      (e = .returned (.bool true) ∧ J (pre ++ [x]) W' ∧ Same M W1 W') ∨ (e = .returned (.bool false) ∧ Jx (pre ++ [x]) W' ∧ Same M W1 W')) →
    J [] W →
    CallsIn Fence.wide n P g (#[.func (.yield l) #[] #[]] ++ lb) W fun e W' => (∃ v, e = .returned v) ∧ ((∃ xs, S xs W' ∧ J xs W') ∨ (∃ pre, Sp pre W' ∧ Jx pre W'))

/-- How the body of a round may be left: on to the next one, or by a return. -/
def turnPost {α : Type} (M : List Nat) (I Ix : List α → World → Prop) (xs : List α) (W : World) : Exit → Act → World → Prop
  | .normal, _, W' => Same M W W' ∧ I xs W'
  | .ret, _, W' => Same M W W' ∧ Ix xs W'
  | _, _, _ => False

theorem wpIn_range_turn {α : Type} {n : Nat} {P : Program} {w : World} {g : Operand} {ps : Array Tmp} {assign body : Code} {Q : Exit → Act → World → Prop} {a : Act}
    {gf : Nat} {lb : Array Value} (hg : a.eval g = .func (.func gf) #[] lb) (eg : ∀ args w, (callFunc gf args).run P w = .ok (.enter gf args) w)
    {encs : α → Array Value} {T M : List Nat} {S Sp : List α → World → Prop} {N : Nat} {w0 : World} (hseq : SeqTurn (n - 1) P gf lb encs T M S Sp N w0) (hb0 : Only [] w0 w) (hps : ∀ x, (encs x).size = ps.size)
    (hT : ∀ k, k ∈ T → k < w.heap.size) (hM : ∀ k, k ∈ M → k < w.heap.size)
    (I Ix : List α → World → Prop) (hI : Holds2 (w.heap.size :: (w.heap.size + 1) :: T) I) (hIx : Holds2 (w.heap.size :: (w.heap.size + 1) :: T) Ix) (h0 : I [] w)
    (hS : Holds2 [w.heap.size, w.heap.size + 1] S) (hSp : Holds2 [w.heap.size, w.heap.size + 1] Sp)
    (Ax : List α → α → Act → World → Prop) (hAx : ∀ pre x a', Holds2 [w.heap.size, w.heap.size + 1] (fun (_ : Unit) W => Ax pre x a' W))
    (hassign : ∀ (l : Nat) (pre : List α) (x : α) (W : World) (K : Act → World → Prop), I pre W → (w.heap.size + 1 < W.heap.size) → (∀ a' W', Same (w.heap.size :: (w.heap.size + 1) :: M) W W' → w.heap.size + 1 < W'.heap.size → I pre W' → Ax pre x a' W' → K a' W') →
      assign.wpIn (Fence.wide.inRound l) (n - 1 - 1) P (Exit.then K (fun _ _ _ => False)) { tmps := (ps.zip (encs x)).foldl (fun t (p, v) => t.setIfInBounds p v) a.tmps, defers := [] } W)
    (hbody : ∀ (l : Nat) (pre : List α) (x : α) (a' : Act) (W : World), I pre W → Ax pre x a' W → w.heap.size + 1 < W.heap.size → pre.length < N → body.wpIn (Fence.wide.inRound l) (n - 1 - 1) P (turnPost (w.heap.size :: (w.heap.size + 1) :: M) I Ix (pre ++ [x]) W) a' W)
    (hdone : ∀ (xs : List α) (W : World), S xs W → I xs W → W.heap[w.heap.size]? = some (.deferred (some [])) → Q .normal { a with defers := { target := .collected w.heap.size, args := #[] } :: a.defers } W)
    (hstop : ∀ (pre : List α) (W : World), Sp pre W → Ix pre W → W.heap[w.heap.size]? = some (.deferred (some [])) → Code.ret.wpIn Fence.wide n P Q { a with defers := { target := .collected w.heap.size, args := #[] } :: a.defers } W) :
    (Code.rangeFunc g ps assign body).wpIn Fence.wide n P Q a w := by
  refine wpIn_rangeFunc fun fn hfn => ?_
  obtain ⟨rec, hrec⟩ : ∃ rec : LoopState → Option Code → Loop, rec = fun st pe => { state := st, pending := pe, fn, tmps := a.tmps, params := ps, assign, body, defers := w.heap.size } := ⟨_, rfl⟩
  have hD : (((w.alloc (.deferred (some []))).alloc (.loop (rec .ready none))).heap)[w.heap.size]? = some (.deferred (some [])) := (Below.heap_alloc _ _ _ (by simp)).trans (World.alloc_heap_new w _)
  have hL : (((w.alloc (.deferred (some []))).alloc (.loop (rec .ready none))).heap)[w.heap.size + 1]? = some (.loop (rec .ready none)) := by
    have := World.alloc_heap_new (w.alloc (.deferred (some []))) (.loop (rec .ready none))
    rwa [World.size_alloc] at this
  have hO : Only [] w ((w.alloc (.deferred (some []))).alloc (.loop (rec .ready none))) := ((Only.refl _ _).alloc _).alloc _
  have hent := run_enterLoop_outer (P := P) (w := w) fn a.tmps ps assign body
  rw [show ({ state := .ready, pending := none, fn := fn, tmps := a.tmps, params := ps, assign := assign, body := body, defers := w.heap.size } : Loop) = rec .ready none from by rw [hrec]] at hent
  generalize hW1 : (w.alloc (.deferred (some []))).alloc (.loop (rec .ready none)) = W1 at *
  have sz1 : w.heap.size + 1 < W1.heap.size := (Array.getElem?_eq_some_iff.1 hL).1
  -- what stands beside the caller's own words
  have keepT : ∀ {A B : World} {k : Nat} {o : Obj}, A.heap[k]? = some o → w.heap.size ≤ k → Only T A B → B.heap[k]? = some o := fun hk hl h =>
    (h.block _ (Array.getElem?_eq_some_iff.1 hk).1 (fun e => by have := hT _ e; omega)).trans hk
  refine ⟨w.heap.size + 1, [{ target := .collected w.heap.size, args := #[] }], W1, { target := .fn (.func gf) lb, args := #[.func (.yield (w.heap.size + 1)) #[] #[]] }, W1, gf, #[.func (.yield (w.heap.size + 1)) #[] #[]] ++ lb, W1, hent, ?_, ?_, ?_, ?_, ?_⟩
  · simp only [resolve, hg]
    simp [go_sem]
  · intro f' hf'
    trivial
  · simp [invoke, go_sem, eg]
  · intro h
    cases h
  refine (hseq (w.heap.size + 1)
    (fun pre W => I pre W ∧ W.heap[w.heap.size + 1]? = some (.loop (rec .ready none)) ∧ W.heap[w.heap.size]? = some (.deferred (some [])))
    (fun pre W => Ix pre W ∧ W.heap[w.heap.size + 1]? = some (.loop (rec .done (some .ret))) ∧ W.heap[w.heap.size]? = some (.deferred (some [])))
    W1 (hb0.trans hO)
    (fun s A B hs k => ⟨hI s A B hs.1 (k.mono (fun x _ hx => by simp [hx])), keepT hs.2.1 (by omega) k, keepT hs.2.2 (by omega) k⟩)
    (fun s A B hs k => ⟨hIx s A B hs.1 (k.mono (fun x _ hx => by simp [hx])), keepT hs.2.1 (by omega) k, keepT hs.2.2 (by omega) k⟩)
    ?_ ⟨hI _ _ _ h0 (hO.mono (by simp)), hL, hD⟩).mono ?_
  · rintro pre x W ⟨hi, hl, hd⟩ hlen
    have hlt : w.heap.size + 1 < W.heap.size := (Array.getElem?_eq_some_iff.1 hl).1
    have hy := run_yield (P := P) (args := encs x) hl (by rw [hrec]; exact hps x)
    rw [hrec] at hy
    refine ⟨fn, _, assign, body, hy, roundIn_of_wpIn hfn (hassign _ pre x W _ hi hlt ?_)⟩
    intro a' Wa hka hsa hia hax
    have hla := (hka (w.heap.size + 1) (by simp)).trans hl
    have hda := (hka w.heap.size (by simp)).trans hd
    refine ⟨_, run_beginRound hla (by rw [hrec]), ?_⟩
    have hob := (Only.refl [w.heap.size, w.heap.size + 1] Wa).putObj (l := w.heap.size + 1) (.inl (by simp)) (.loop { rec .ready none with state := .busy })
    have hlb : (Wa.putObj (w.heap.size + 1) (.loop { rec .ready none with state := .busy })).heap[w.heap.size + 1]? = some (.loop { rec .ready none with state := .busy }) := World.putObj_heap_same hsa
    have hdb : (Wa.putObj (w.heap.size + 1) (.loop { rec .ready none with state := .busy })).heap[w.heap.size]? = some (.deferred (some [])) := (World.putObj_heap_other (by omega)).trans hda
    have hmb : Same M Wa (Wa.putObj (w.heap.size + 1) (.loop { rec .ready none with state := .busy })) := same_putObj _ _ _ (fun e => by have := hM _ e; omega)
    generalize hWb : Wa.putObj (w.heap.size + 1) (.loop { rec .ready none with state := .busy }) = Wb at *
    have hM1 : ∀ {A B : World}, Same (w.heap.size :: (w.heap.size + 1) :: M) A B → Same M A B := fun h k hk => h k (by simp [hk])
    refine wpIn_mono (hbody _ pre x a' Wb (hI _ _ _ hia (hob.mono (fun k _ hk => by simp at hk ⊢; omega))) (hAx pre x a' () _ _ hax hob) (Array.getElem?_eq_some_iff.1 hlb).1 hlen) ?_
    rintro e a3 W3 hp
    cases e with
    | normal =>
      obtain ⟨hk3, hi3⟩ := hp
      have hl3 := (hk3 (w.heap.size + 1) (by simp)).trans hlb
      have hd3 := (hk3 w.heap.size (by simp)).trans hdb
      have he := run_endRound (P := P) none hl3
      have hlt3 := (Array.getElem?_eq_some_iff.1 hl3).1
      refine ⟨_, _, he, .inl ⟨rfl, ⟨hI _ _ _ hi3 ((Only.refl _ _).putObj (.inl (by simp)) _), ?_, (World.putObj_heap_other (by omega)).trans hd3⟩, ?_⟩⟩
      · rw [World.putObj_heap_same hlt3, hrec]; rfl
      · exact (hM1 hka).trans (hmb.trans ((hM1 hk3).trans (same_putObj _ _ _ (fun e => by have := hM _ e; omega))))
    | ret =>
      obtain ⟨hk3, hi3⟩ := hp
      have hl3 := (hk3 (w.heap.size + 1) (by simp)).trans hlb
      have hd3 := (hk3 w.heap.size (by simp)).trans hdb
      have he := run_endRound (P := P) (some .ret) hl3
      have hlt3 := (Array.getElem?_eq_some_iff.1 hl3).1
      refine ⟨_, _, he, .inr ⟨rfl, ⟨hIx _ _ _ hi3 ((Only.refl _ _).putObj (.inl (by simp)) _), ?_, (World.putObj_heap_other (by omega)).trans hd3⟩, ?_⟩⟩
      · rw [World.putObj_heap_same hlt3, hrec]; rfl
      · exact (hM1 hka).trans (hmb.trans ((hM1 hk3).trans (same_putObj _ _ _ (fun e => by have := hM _ e; omega))))
    | _ => exact hp.elim
  · rintro e W2 ⟨⟨v, rfl⟩, (⟨xs, hs, hi, hl, hd⟩ | ⟨pre, hs, hi, hl, hd⟩)⟩
    · have he := run_endLoop (P := P) hl (by rw [hrec]; simp)
      refine ⟨none, _, by rw [he, hrec], hdone xs _ (hS _ _ _ hs ((Only.refl _ _).putObj (.inl (by simp)) _)) (hI _ _ _ hi ((Only.refl _ _).putObj (.inl (by simp)) _)) ((World.putObj_heap_other (by omega)).trans hd)⟩
    · have he := run_endLoop (P := P) hl (by rw [hrec]; simp)
      refine ⟨some .ret, _, by rw [he, hrec], hstop pre _ (hSp _ _ _ hs ((Only.refl _ _).putObj (.inl (by simp)) _)) (hIx _ _ _ hi ((Only.refl _ _).putObj (.inl (by simp)) _)) ((World.putObj_heap_other (by omega)).trans hd)⟩
end Go.Proofs.YtdkmeldcpamnnaaDoor

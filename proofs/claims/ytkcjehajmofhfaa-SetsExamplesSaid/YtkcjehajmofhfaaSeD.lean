/- Maps from numbers to structs by value: what a map's block holds, look-ups, stores, copies. -/
import Derived.Test.YtkcjehajmofhfaaSeM
import Derived.Test.YtkcjehajmofhfaaRows
import Derived.Maps.OwnSet
import Derived.MapKept
namespace Go.Proofs.Ytkcjehajmofhfaa
open Go.RowKit Go.Maps
set_option linter.unusedVariables false

section
variable {α : Type} {P : Program} {V : α → Value} {K E T : TypeId}
open Classical in
/-- An element, by what it is. -/
noncomputable def elE (V : α → Value) (v : Value) : Option (DataW α × List MemPlace) := if h : ∃ x, v = V x then some (.held h.choose, []) else none
theorem elE_mk (hV : ∀ x y, V x = V y → x = y) (x : α) : elE V (V x) = some (.held x, []) := by
  have h : ∃ y, V x = V y := ⟨x, rfl⟩
  rw [elE, dif_pos h, hV _ _ h.choose_spec.symm]
theorem elE_inv {v : Value} {z : DataW α × List MemPlace} (h : elE V v = some z) : ∃ x, v = V x ∧ z = (.held x, []) := by
  unfold elE at h
  split at h
  · rename_i hx; cases h; exact ⟨_, hx.choose_spec, rfl⟩
  · cases h
def IntOk (k : Int) : Prop := -9223372036854775808 ≤ k ∧ k ≤ 9223372036854775807
theorem intOk_wf {k : Int} (h : IntOk k) : (Lit.int .i64 k).wf = true := WalkArith.wf_i64 (by unfold IntOk at h; omega)
/-- The map at block b holds what f says; it has at most n entries. -/
def MapAt (P : Program) (K : TypeId) (V : α → Value) (w : World) (b n : Nat) (f : Int → Option α) : Prop :=
  ∃ M : DataW α, w.ownsMap P K (elE V) b n M ∧ ∀ k, IntOk k → Maps.has M (.int .i64 k) = (f k).isSome ∧ ∀ x, f k = some x → ∀ z, M.atKey (.int .i64 k) z = .held x
/-- .. or it is nil. -/
def MapIn (P : Program) (K : TypeId) (V : α → Value) (w : World) (m : Option Nat) (n : Nat) (f : Int → Option α) : Prop :=
  match m with | none => f = fun _ => none | some b => MapAt P K V w b n f
variable {w w' : World} {b n : Nat} {m : Option Nat} {f : Int → Option α}
theorem MapAt.lt (h : MapAt P K V w b n f) : b < w.heap.size := let ⟨_, h, _⟩ := h; h.lt
theorem MapAt.block (h : MapAt P K V w b n f) (hw : w'.heap[b]? = w.heap[b]?) : MapAt P K V w' b n f := by
  obtain ⟨M, ⟨es, clock, hb, r⟩, h2⟩ := h
  exact ⟨M, ⟨es, clock, hw.trans hb, r⟩, h2⟩
theorem MapAt.only {S : List Nat} (h : MapAt P K V w b n f) (k : Only S w w') (hb : b ∉ S) : MapAt P K V w' b n f := h.block (k.block b h.lt hb)
theorem MapAt.mono (h : MapAt P K V w b n f) {n' : Nat} (hn : n ≤ n') : MapAt P K V w b n' f := let ⟨M, h1, h2⟩ := h; ⟨M, h1.mono hn, h2⟩
theorem MapIn.only {S : List Nat} (h : MapIn P K V w m n f) (k : Only S w w') (hb : ∀ b, m = some b → b ∉ S) : MapIn P K V w' m n f := by
  cases m with
  | none => exact h
  | some b => exact MapAt.only h k (hb b rfl)
theorem MapIn.mono (h : MapIn P K V w m n f) {n' : Nat} (hn : n ≤ n') : MapIn P K V w m n' f := by
  cases m with
  | none => exact h
  | some b => exact MapAt.mono h hn
theorem MapIn.lt (h : MapIn P K V w m n f) : ∀ b, m = some b → b < w.heap.size := by
  intro b e; subst e; exact MapAt.lt h
/-- A new map. -/
theorem MapAt.new (w : World) : MapAt P K V (w.alloc (.map #[] 0)) w.heap.size 0 (fun _ => none) :=
  ⟨.map [], World.ownsMap_made w P K (elE V), fun k _ => ⟨rfl, fun x h => by cases h⟩⟩
/-- A look-up. -/
theorem MapIn.look (h : MapIn P K V w m n f) (hK : P.underlying K = some (.int .i64)) (hT : P.underlying T = some (.map K E)) (hV : ∀ x y, V x = V y → x = y) {x0 : α} (hz : ∀ w, (zeroValue E).run P w = .ok (V x0) w) {k : Int} (hk : IntOk k) :
    (Instr.lookup T (.map m) (.int .i64 k) true).run P w = .ok (.tuple #[V ((f k).getD x0), .bool (f k).isSome]) w := by
  cases m with
  | none =>
    rw [Maps.look_nil true (int_keyed hK) hT (hz w) (keyOf_int_mk hK (intOk_wf hk))]
    rw [show f = fun _ => none from h]
    rfl
  | some b =>
    obtain ⟨M, ho, hr⟩ := h
    obtain ⟨v, ps, hrun, hv⟩ := ho.look_ok (int_keyed hK) hT (hz w) (elE_mk hV x0) (keyOf_int_mk hK (intOk_wf hk))
    obtain ⟨h1, h2⟩ := hr k hk
    rw [hrun, h1]
    obtain ⟨x, rfl, hx⟩ := elE_inv hv
    simp only [Prod.mk.injEq] at hx
    cases e : f k with
    | none =>
      have a := Maps.atKey_of_not_has (D := M) (k := .int .i64 k) (by rw [h1, e]; rfl) (.held x0)
      rw [a] at hx
      cases hx.1
      rfl
    | some y =>
      have a := h2 y e (.held x0)
      rw [a] at hx
      cases hx.1
      rfl
/-- A store. -/
theorem MapAt.store (h : MapAt P K V w b n f) (hK : P.underlying K = some (.int .i64)) (hT : P.underlying T = some (.map K E)) (hV : ∀ x y, V x = V y → x = y) (hn : n < maxLen) {k : Int} (hk : IntOk k) (x : α) :
    ∃ w', (Instr.mapUpdate T (.map (some b)) (.int .i64 k) (V x)).run P w = .ok () w' ∧ MapAt P K V w' b (n + 1) (upd f k x) ∧ Only [b] w w' ∧ w'.heap.size = w.heap.size ∧ (∀ a : Addr, a.block ≠ b → w'.cell? a = w.cell? a ∧ w'.frozen? a = w.frozen? a) := by
  obtain ⟨M, ho, hr⟩ := h
  obtain ⟨w', hrun, ho', ht⟩ := ho.store (int_keyed hK) hT hn (keyOf_int_mk hK (intOk_wf hk)) (elE_mk hV x)
  have kk : WideAt.IsKeyLit (.int .i64 k) := (int_keyed hK).key (keyOf_int_mk hK (intOk_wf hk))
  have hsz : w'.heap.size = w.heap.size := by obtain ⟨_, _, _, _, _, rfl⟩ := ht; simp [ChangeMaps.setBlock]
  have hB : ∀ i, i ≠ b → w'.heap[i]? = w.heap[i]? := by
    intro i hi
    obtain ⟨_, _, _, _, hb, rfl⟩ := ht
    exact ChangeMaps.heap_setBlock_other hb _ hi
  refine ⟨w', hrun, ⟨_, ho', fun j hj => ?_⟩, ⟨?_, ?_, ?_, by omega, fun i hi hs => hB i (by simpa using hs)⟩, hsz, fun a ha => ⟨World.cell?_of_block (w := w) (hB _ ha), World.frozen?_of_block (w := w) (hB _ ha)⟩⟩
  · by_cases e : j = k
    · subst e
      refine ⟨by rw [Maps.has_put_same ho.isMap kk, upd_same]; rfl, fun y hy z => ?_⟩
      rw [upd_same] at hy; cases hy
      exact Maps.atKey_put_same ho.isMap kk _ _
    · have hne : (Lit.int .i64 j) ≠ .int .i64 k := fun h => e (by injection h)
      obtain ⟨h1, h2⟩ := hr j hj
      refine ⟨by rw [Maps.has_put_other hne, upd_other f x e]; exact h1, fun y hy z => ?_⟩
      rw [upd_other f x e] at hy
      rw [Maps.atKey_put_other hne]
      exact h2 y hy z
  · obtain ⟨_, _, _, _, _, rfl⟩ := ht; rfl
  · obtain ⟨_, _, _, _, _, rfl⟩ := ht; rfl
  · obtain ⟨_, _, _, _, _, rfl⟩ := ht; rfl
end
end Go.Proofs.Ytkcjehajmofhfaa

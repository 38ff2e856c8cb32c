/- The rows of a plain macroblock in memory, apart from one another; the closures of MbSpoils. -/
import Derived.Test.YtpmmnjeomdjakaaDoorMgB
import Derived.Test.YtpmmnjeomdjakaaDoorMmb19
namespace Go.Proofs.YtpmmnjeomdjakaaDoor
open Go.RowKit
set_option linter.unusedVariables false
set_option linter.unusedSimpArgs false

/-- Rows of different types lie in different blocks. -/
theorem rows_types {α β : Type} {C : α → List Value} {D : β → List Value} {n m : Nat} {E F : TypeId} {w : World} {sv tv : Value} {l : List α} {k : List β} (h1 : RowG C n E w sv l) (h2 : RowG D m F w tv k) (hne : E ≠ F) : ∀ g, g ∈ ownG sv → g ∉ ownG tv := by
  intro g hg hh
  rcases h1.2 with ⟨rfl, _⟩ | ⟨a, cap, cur, rfl, _, p1, _⟩
  · simp [ownG, Value.ownBlock] at hg
  rcases h2.2 with ⟨rfl, _⟩ | ⟨b, cap2, cur2, rfl, _, p2, _⟩
  · simp [ownG, Value.ownBlock] at hh
  simp [ownG, Value.ownBlock] at hg hh
  subst hg hh
  rw [p1] at p2
  simp at p2
  exact hne p2.2
theorem mem_ownI (sv : Value) (g : Nat) : g ∈ ownI sv ↔ g ∈ ownG sv := by rw [ownI_G]
theorem types_ne : (3 : TypeId) ≠ 36 ∧ (3 : TypeId) ≠ 24 ∧ (36 : TypeId) ≠ 24 := by decide
/-- The rows of x lie between lo and hi, apart from one another. -/
structure PR (w : World) (x : MV) (rv vv bv : Value) (us : List SlV) (lo hi : Nat) : Prop where
  r : RowI w rv x.refs
  v : RowG vcC 2 36 w vv x.mvds
  b : RowG slC 1 24 w bv us
  bl : us.length = x.blocks.length
  i : ∀ (j : Nat) (v : SlV) (y : List Int), us[j]? = some v → x.blocks[j]? = some y → RowI w v.sl y
  rb : ∀ g, g ∈ ownG rv → lo ≤ g ∧ g < hi
  vb : ∀ g, g ∈ ownG vv → lo ≤ g ∧ g < hi
  bb : ∀ g, g ∈ ownG bv → lo ≤ g ∧ g < hi
  ib : ∀ (j : Nat) (v : SlV), us[j]? = some v → ∀ g, g ∈ ownG v.sl → lo ≤ g ∧ g < hi
  ri : ∀ (j : Nat) (v : SlV), us[j]? = some v → ∀ g, g ∈ ownG rv → g ∉ ownG v.sl
  ii : ∀ (i j : Nat) (u v : SlV), i ≠ j → us[i]? = some u → us[j]? = some v → ∀ g, g ∈ ownG u.sl → g ∉ ownG v.sl
theorem PR.of {w0 w : World} {x : MV} {rv vv bv : Value} (h : OwnA w0 w x rv vv bv) : ∃ us, PR w x rv vv bv us w0.heap.size w.heap.size := by
  obtain ⟨us, ul, uh, u1, u2⟩ := h.b
  obtain ⟨vs, c, vl, vi⟩ := h.m.b
  obtain rfl : us = vs := by
    have h2 := c.row.holds slC_ok
    obtain ⟨a, k, e, _⟩ := id uh
    subst e
    have hl : us.length = vs.length := by rw [ul, vl]
    apply List.ext_getElem hl
    intro j p1 p2
    obtain ⟨b1, o1, e1, k1⟩ := uh.at (List.getElem?_eq_getElem p1)
    rw [hl] at h2
    obtain ⟨b2, o2, e2, k2⟩ := h2.at (List.getElem?_eq_getElem p2)
    rw [e1] at e2
    cases e2
    have q1 := k1 0 _ rfl
    have q2 := k2 0 _ rfl
    rw [q1] at q2
    have := Option.some.inj q2
    simp only [SlV.sl, Value.slice.injEq] at this
    obtain ⟨t1, t2, t3⟩ := this
    exact Prod.ext t1 (Prod.ext t2 t3)
  have ilt : ∀ (j : Nat) (v : SlV), us[j]? = some v → ∀ g, g ∈ ownG v.sl → w0.heap.size ≤ g ∧ g < w.heap.size := fun j v hv g hg => by
    obtain ⟨z, hz⟩ : ∃ z, x.blocks[j]? = some z := ⟨_, List.getElem?_eq_getElem (by have := (List.getElem?_eq_some_iff.1 hv).1; omega)⟩
    obtain ⟨r1, r2⟩ := vi j v z hv hz
    exact ⟨(r2 g ((mem_ownI _ _).2 hg)).1, r1.lt g ((mem_ownI _ _).2 hg)⟩
  exact ⟨us, h.m.r, h.m.v, c.row, ul, fun j v y hv hy => (vi j v y hv hy).1, fun g hg => ⟨h.m.rn g ((mem_ownI _ _).2 hg), h.m.r.lt g ((mem_ownI _ _).2 hg)⟩, fun g hg => ⟨h.m.vn g hg, h.m.v.lt g hg⟩, fun g hg => ⟨c.new g hg, c.row.lt g hg⟩, ilt,
    fun j v hv g hg hh => u1 j v hv g ((mem_ownI _ _).2 hg) ((mem_ownI _ _).2 hh), fun i j u v hij hu hv g hg hh => by
      rcases Nat.lt_or_gt_of_ne hij with h | h
      · exact u2 i j u v h hu hv g ((mem_ownI _ _).2 hg) ((mem_ownI _ _).2 hh)
      · exact u2 j i v u h hv hu g ((mem_ownI _ _).2 hh) ((mem_ownI _ _).2 hg)⟩
theorem PR.rv {w : World} {x : MV} {rv vv bv : Value} {us : List SlV} {lo hi : Nat} (h : PR w x rv vv bv us lo hi) : (∀ g, g ∈ ownG rv → g ∉ ownG vv) ∧ (∀ g, g ∈ ownG rv → g ∉ ownG bv) ∧ (∀ g, g ∈ ownG vv → g ∉ ownG bv) ∧ (∀ (j : Nat) (v : SlV), us[j]? = some v → ∀ g, g ∈ ownG v.sl → g ∉ ownG vv ∧ g ∉ ownG bv) := by
  have r := h.r.toG
  refine ⟨rows_types r h.v types_ne.1, rows_types r h.b types_ne.2.1, rows_types h.v h.b types_ne.2.2, fun j v hv g hg => ?_⟩
  obtain ⟨z, hz⟩ : ∃ z, x.blocks[j]? = some z := ⟨_, List.getElem?_eq_getElem (by have := (List.getElem?_eq_some_iff.1 hv).1; have := h.bl; omega)⟩
  have q := (h.i j v z hv hz).toG
  exact ⟨rows_types q h.v types_ne.1 g hg, rows_types q h.b types_ne.2.1 g hg⟩
/-- What is turned elsewhere. -/
theorem PR.step {S : List Nat} {w w' : World} {x : MV} {rv vv bv : Value} {us : List SlV} {lo hi : Nat} (h : PR w x rv vv bv us lo hi) (k : Only S w w') (hS : ∀ g, g ∈ S → g < lo ∨ hi ≤ g) : PR w' x rv vv bv us lo hi := by
  have out : ∀ g, lo ≤ g ∧ g < hi → g ∉ S := fun g hg hs => by have := hS g hs; omega
  exact ⟨h.r.only k (fun g hg => out g (h.rb g ((mem_ownI _ _).1 hg))), h.v.only k (fun g hg => out g (h.vb g hg)), h.b.only k (fun g hg => out g (h.bb g hg)), h.bl,
    fun j v y hv hy => (h.i j v y hv hy).only k (fun g hg => out g (h.ib j v hv g ((mem_ownI _ _).1 hg))), h.rb, h.vb, h.bb, h.ib, h.ri, h.ii⟩
theorem PR.at {w : World} {x : MV} {rv vv bv : Value} {us : List SlV} {lo hi : Nat} (h : PR w x rv vv bv us lo hi) : MAt w x rv vv bv :=
  ⟨h.r.holds, h.v.holds vcC_ok, us, h.b.holds slC_ok, h.bl, fun j v y hv hy => (h.i j v y hv hy).holds⟩
theorem res_none {P : Program} {fn : Func} {tmps : Array Value} {w : World} (h : fn.results = #[]) : (results fn tmps).run P w = .ok (.tuple #[]) w := by simp [results, h]
set_option maxRecDepth 100000 in
theorem inside_any (lo hi n e0 : Int) (pn pw : Nat) (w : World) (hn : w.cell? ⟨pn, 0, none⟩ = some (.int .i64 n)) (hw : Blk w pw 30 #[.int .i64 e0]) :
    Calls Tryd.prog 20 #[.int .i64 lo, .int .i64 hi, .pointer (some ⟨pn, 0, none⟩), .pointer (some ⟨pw, 0, none⟩)] w fun e w' => e = .returned (.tuple #[]) ∧ Blk w' pw 30 #[.int .i64 (if inI n lo hi = true then e0 else 3)] ∧ Only [pw] w w' := by
  have HW := hid hw
  have cw := hw.cell (i := 0) (v := .int .i64 e0) rfl
  have fw := hw.frozen 0
  have NB := hid (hw.set 0 (.int .i64 3))
  have NO := hid ((Only.refl [pw] w).setCell (p := ⟨pw, 0, none⟩) (.inl (by simp)) (.int .i64 3))
  clear hw
  by_cases h1 : n < lo
  · have e : inI n lo hi = false := by unfold inI; rw [decide_eq_false (by omega)]; rfl
    rw [e]
    have d1 : decide (n < lo) = true := decide_eq_true h1
    clear h1 e
    go_enter Tryd.func20, Tryd.ntmps20
    go_wp2_with fail
    refine bodyPost_end (res_none rfl) rfl ⟨rfl, NB.out, NO.out⟩
  · have d1 : decide (n < lo) = false := decide_eq_false h1
    by_cases h2 : hi < n
    · have e : inI n lo hi = false := by unfold inI; rw [decide_eq_false (by omega : ¬ n ≤ hi), Bool.and_false]
      rw [e]
      have d2 : decide (hi < n) = true := decide_eq_true h2
      clear h1 h2 e
      go_enter Tryd.func20, Tryd.ntmps20
      go_wp2_with fail
      refine bodyPost_end (res_none rfl) rfl ⟨rfl, NB.out, NO.out⟩
    · have e : inI n lo hi = true := by unfold inI; rw [decide_eq_true (by omega), decide_eq_true (by omega)]; rfl
      rw [e]
      have d2 : decide (hi < n) = false := decide_eq_false h2
      clear h1 h2 e
      go_enter Tryd.func20, Tryd.ntmps20
      go_wp2_with fail
      refine bodyPost_end (res_none rfl) rfl ⟨rfl, HW.out, Only.refl _ _⟩
set_option maxRecDepth 100000 in
theorem lacks_any (b : Bool) (e0 : Int) (pw : Nat) (w : World) (hw : Blk w pw 30 #[.int .i64 e0]) :
    Calls Tryd.prog 21 #[.bool b, .pointer (some ⟨pw, 0, none⟩)] w fun e w' => e = .returned (.tuple #[]) ∧ Blk w' pw 30 #[.int .i64 (if b = true then e0 else 2)] ∧ Only [pw] w w' := by
  have HW := hid hw
  have cw := hw.cell (i := 0) (v := .int .i64 e0) rfl
  have fw := hw.frozen 0
  have NB := hid (hw.set 0 (.int .i64 2))
  have NO := hid ((Only.refl [pw] w).setCell (p := ⟨pw, 0, none⟩) (.inl (by simp)) (.int .i64 2))
  clear hw
  cases b
  · go_enter Tryd.func21, Tryd.ntmps21
    go_wp2_with fail
    refine bodyPost_end (res_none rfl) rfl ⟨rfl, NB.out, NO.out⟩
  · go_enter Tryd.func21, Tryd.ntmps21
    go_wp2_with fail
    refine bodyPost_end (res_none rfl) rfl ⟨rfl, HW.out, Only.refl _ _⟩
end Go.Proofs.YtpmmnjeomdjakaaDoor

/- Parameter sets as plain values; when they are valid; what is known by its number. Plain, but for the values' spelling. -/
import Derived.Test.YtkcjehajmofhfaaObj
namespace Go.Proofs.Ytkcjehajmofhfaa
open Go.RowKit
set_option linter.unusedVariables false

/-- A sequence parameter set. -/
structure SV where
  pr : Int
  fl : Int
  lv : Int
  id : Int
  fb : Int
  pb : Int
  rf : Int
  wd : Int
  ht : Int
/-- A picture parameter set. -/
structure PV where
  id : Int
  sps : Int
  cab : Bool
  rf : Int
  r1 : Int
  qp : Int
  qs : Int
  ch : Int
  db : Bool
  nt : Bool
theorem SV.eq_iff (a b : SV) : a = b ↔ a.pr = b.pr ∧ a.fl = b.fl ∧ a.lv = b.lv ∧ a.id = b.id ∧ a.fb = b.fb ∧ a.pb = b.pb ∧ a.rf = b.rf ∧ a.wd = b.wd ∧ a.ht = b.ht := by
  cases a; cases b; simp
theorem PV.eq_iff (a b : PV) : a = b ↔ a.id = b.id ∧ a.sps = b.sps ∧ a.cab = b.cab ∧ a.rf = b.rf ∧ a.r1 = b.r1 ∧ a.qp = b.qp ∧ a.qs = b.qs ∧ a.ch = b.ch ∧ a.db = b.db ∧ a.nt = b.nt := by
  cases a; cases b; simp
instance instDecSV : DecidableEq SV := fun a b => decidable_of_iff _ (SV.eq_iff a b).symm
instance instDecPV : DecidableEq PV := fun a b => decidable_of_iff _ (PV.eq_iff a b).symm
def s0 : SV := ⟨0, 0, 0, 0, 0, 0, 0, 0, 0⟩
def p0 : PV := ⟨0, 0, false, 0, 0, 0, 0, 0, false, false⟩
/-- Their cells, and what they are as values. -/
abbrev sC (x : SV) : Array Value := #[.int .u8 x.pr, .int .u8 x.fl, .int .u8 x.lv, .int .i64 x.id, .int .i64 x.fb, .int .i64 x.pb, .int .i64 x.rf, .int .i64 x.wd, .int .i64 x.ht]
abbrev pC (x : PV) : Array Value := #[.int .i64 x.id, .int .i64 x.sps, .bool x.cab, .int .i64 x.rf, .int .i64 x.r1, .int .i64 x.qp, .int .i64 x.qs, .int .i64 x.ch, .bool x.db, .bool x.nt]
abbrev sV (x : SV) : Value := .agg #[.int .u8 x.pr, .int .u8 x.fl, .int .u8 x.lv, .int .i64 x.id, .int .i64 x.fb, .int .i64 x.pb, .int .i64 x.rf, .int .i64 x.wd, .int .i64 x.ht]
abbrev pV (x : PV) : Value := .agg #[.int .i64 x.id, .int .i64 x.sps, .bool x.cab, .int .i64 x.rf, .int .i64 x.r1, .int .i64 x.qp, .int .i64 x.qs, .int .i64 x.ch, .bool x.db, .bool x.nt]
theorem sV_inj {x y : SV} (h : sV x = sV y) : x = y := by
  rw [SV.eq_iff]; simp only [sV, Value.agg.injEq, Array.mk.injEq, List.cons.injEq, Value.int.injEq, true_and, and_true] at h; exact h
theorem pV_inj {x y : PV} (h : pV x = pV y) : x = y := by
  rw [PV.eq_iff]; simp only [pV, Value.agg.injEq, Array.mk.injEq, List.cons.injEq, Value.int.injEq, Value.bool.injEq, true_and, and_true] at h; exact h

/-- A number is from lo to hi. -/
def inB (v lo hi : Int) : Bool := decide (lo ≤ v ∧ v ≤ hi)
theorem inB_true {v lo hi : Int} (h : inB v lo hi = true) : lo ≤ v ∧ v ≤ hi := by simpa [inB] using h
theorem inB_mk {v lo hi : Int} (h : lo ≤ v) (k : v ≤ hi) : inB v lo hi = true := by simp [inB, h, k]
theorem inB_false {v lo hi : Int} (h : inB v lo hi = false) : v < lo ∨ hi < v := by simp [inB] at h; omega
/-- The greatest height of a picture of this width. -/
def mostH (wd : Int) : Int := min 128 (8160 / wd)
/-- A parameter set is valid. -/
def okS (x : SV) : Bool := inB x.id 0 31 && inB x.fb 4 16 && inB x.pb 4 16 && inB x.rf 0 16 && inB x.wd 1 128 && inB x.ht 1 (mostH x.wd)
def okP (x : PV) : Bool := inB x.id 0 31 && inB x.sps 0 31 && inB x.rf 1 32 && inB x.r1 1 32 && inB x.qp (-26) 25 && inB x.qs (-26) 25 && inB x.ch (-12) 12
def chS (x : SV) : Int := if okS x then 0 else 3
def chP (x : PV) : Int := if okP x then 0 else 3
theorem okS_cases (x : SV) : (inB x.id 0 31 = true ∧ inB x.fb 4 16 = true ∧ inB x.pb 4 16 = true ∧ inB x.rf 0 16 = true ∧ inB x.wd 1 128 = true ∧ inB x.ht 1 (mostH x.wd) = true ∧ okS x = true) ∨
    (inB x.id 0 31 = true ∧ inB x.fb 4 16 = true ∧ inB x.pb 4 16 = true ∧ inB x.rf 0 16 = true ∧ inB x.wd 1 128 = true ∧ inB x.ht 1 (mostH x.wd) = false ∧ okS x = false) ∨
    (inB x.id 0 31 = true ∧ inB x.fb 4 16 = true ∧ inB x.pb 4 16 = true ∧ inB x.rf 0 16 = true ∧ inB x.wd 1 128 = false ∧ okS x = false) ∨
    (inB x.id 0 31 = true ∧ inB x.fb 4 16 = true ∧ inB x.pb 4 16 = true ∧ inB x.rf 0 16 = false ∧ okS x = false) ∨
    (inB x.id 0 31 = true ∧ inB x.fb 4 16 = true ∧ inB x.pb 4 16 = false ∧ okS x = false) ∨
    (inB x.id 0 31 = true ∧ inB x.fb 4 16 = false ∧ okS x = false) ∨ (inB x.id 0 31 = false ∧ okS x = false) := by
  unfold okS
  cases inB x.id 0 31 <;> cases inB x.fb 4 16 <;> cases inB x.pb 4 16 <;> cases inB x.rf 0 16 <;> cases inB x.wd 1 128 <;> cases inB x.ht 1 (mostH x.wd) <;> simp
theorem okP_cases (x : PV) : (inB x.id 0 31 = true ∧ inB x.sps 0 31 = true ∧ inB x.rf 1 32 = true ∧ inB x.r1 1 32 = true ∧ inB x.qp (-26) 25 = true ∧ inB x.qs (-26) 25 = true ∧ inB x.ch (-12) 12 = true ∧ okP x = true) ∨
    (inB x.id 0 31 = true ∧ inB x.sps 0 31 = true ∧ inB x.rf 1 32 = true ∧ inB x.r1 1 32 = true ∧ inB x.qp (-26) 25 = true ∧ inB x.qs (-26) 25 = true ∧ inB x.ch (-12) 12 = false ∧ okP x = false) ∨
    (inB x.id 0 31 = true ∧ inB x.sps 0 31 = true ∧ inB x.rf 1 32 = true ∧ inB x.r1 1 32 = true ∧ inB x.qp (-26) 25 = true ∧ inB x.qs (-26) 25 = false ∧ okP x = false) ∨
    (inB x.id 0 31 = true ∧ inB x.sps 0 31 = true ∧ inB x.rf 1 32 = true ∧ inB x.r1 1 32 = true ∧ inB x.qp (-26) 25 = false ∧ okP x = false) ∨
    (inB x.id 0 31 = true ∧ inB x.sps 0 31 = true ∧ inB x.rf 1 32 = true ∧ inB x.r1 1 32 = false ∧ okP x = false) ∨
    (inB x.id 0 31 = true ∧ inB x.sps 0 31 = true ∧ inB x.rf 1 32 = false ∧ okP x = false) ∨
    (inB x.id 0 31 = true ∧ inB x.sps 0 31 = false ∧ okP x = false) ∨ (inB x.id 0 31 = false ∧ okP x = false) := by
  unfold okP
  cases inB x.id 0 31 <;> cases inB x.sps 0 31 <;> cases inB x.rf 1 32 <;> cases inB x.r1 1 32 <;> cases inB x.qp (-26) 25 <;> cases inB x.qs (-26) 25 <;> cases inB x.ch (-12) 12 <;> simp
theorem okS_id {x : SV} (h : okS x = true) : 0 ≤ x.id ∧ x.id ≤ 31 := by
  unfold okS at h; simp only [Bool.and_eq_true] at h; exact inB_true h.1.1.1.1.1
theorem okP_id {x : PV} (h : okP x = true) : (0 ≤ x.id ∧ x.id ≤ 31) ∧ (0 ≤ x.sps ∧ x.sps ≤ 31) := by
  unfold okP at h; simp only [Bool.and_eq_true] at h; exact ⟨inB_true h.1.1.1.1.1.1, inB_true h.1.1.1.1.1.2⟩

/-- What is known by its number: nothing, or the latest one. -/
def upd {α : Type} (f : Int → Option α) (k : Int) (x : α) : Int → Option α := fun i => if i = k then some x else f i
theorem upd_same {α : Type} (f : Int → Option α) (k : Int) (x : α) : upd f k x k = some x := by simp [upd]
theorem upd_other {α : Type} (f : Int → Option α) {k i : Int} (x : α) (h : i ≠ k) : upd f k x i = f i := by simp [upd, h]
theorem upd_swap {α : Type} (f : Int → Option α) {k i : Int} (x y : α) (h : i ≠ k) : upd (upd f k x) i y = upd (upd f i y) k x := by
  funext j
  by_cases h1 : j = i <;> by_cases h2 : j = k <;> simp [upd, h1, h2]
  · omega
  · subst h1; simp [h]
  · subst h2; simp [Ne.symm h]
theorem upd_twice {α : Type} (f : Int → Option α) (k : Int) (x y : α) : upd (upd f k x) k y = upd f k y := by
  funext j
  by_cases h1 : j = k <;> simp [upd, h1]
/-- What Get answers. -/
def getR (f : Int → Option SV) (g : Int → Option PV) (i : Int) : PV × SV × Int :=
  if i < 0 ∨ 32 ≤ i then (p0, s0, 3) else
    match g i with
    | none => (p0, s0, 7)
    | some p => match f p.sps with
      | none => (p0, s0, 7)
      | some s => (p, s, 0)
/-- All that is known has its number, and is valid. -/
def AllS (f : Int → Option SV) : Prop := ∀ i x, f i = some x → x.id = i ∧ okS x = true
def AllP (g : Int → Option PV) : Prop := ∀ i x, g i = some x → x.id = i ∧ okP x = true
theorem AllS.upd {f : Int → Option SV} (h : AllS f) {x : SV} (hx : okS x = true) : AllS (upd f x.id x) := by
  intro i y hy
  by_cases e : i = x.id
  · subst e; rw [upd_same] at hy; cases hy; exact ⟨rfl, hx⟩
  · rw [upd_other f x e] at hy; exact h i y hy
theorem AllP.upd {f : Int → Option PV} (h : AllP f) {x : PV} (hx : okP x = true) : AllP (upd f x.id x) := by
  intro i y hy
  by_cases e : i = x.id
  · subst e; rw [upd_same] at hy; cases hy; exact ⟨rfl, hx⟩
  · rw [upd_other f x e] at hy; exact h i y hy
end Go.Proofs.Ytkcjehajmofhfaa

/- The reference's Intra, Type, Parts. -/
/- Plain facts of chapter 13: which blocks there are, what is valid. -/
import Derived.Test.YtpmmnjeomdjakaaDoorKiM
import Derived.Test.YtpmmnjeomdjakaaDoorMmb2
import Derived.Deep.LoopGhost
import Derived.Deep.DeepCutAuto
import Derived.Deep.CutBlock
section
set_option maxRecDepth 20000
namespace Go.Proofs.YtpmmnjeomdjakaaDoor
open Go.RowKit
set_option linter.unusedVariables false
set_option linter.unusedSimpArgs false

theorem ret_pair {a b c d : Int} (h1 : a = c) (h2 : b = d) : Ending.returned (.tuple #[.int .i64 a, .int .i64 b]) = .returned (.tuple #[.int .i64 c, .int .i64 d]) := by rw [h1, h2]
def intraI (k : Int) : Bool := decide (k = 0 ∨ k = 1 ∨ k = 2)
/-- The numbers of a macroblock that are bytes. -/
structure MOk (x : MV) : Prop where
  k0 : 0 ≤ x.kind
  k1 : x.kind ≤ 255
  m0 : 0 ≤ x.mode
  m1 : x.mode ≤ 255
  c0 : 0 ≤ x.cbp
  c1 : x.cbp ≤ 255
theorem rintra_any (k : Int) (w : World) : Calls Tryd.prog 39 #[.int .u8 k] w fun e w' => e = .returned (.bool (intraI k)) ∧ Only [] w w' := by
  by_cases h0 : k = 0
  · subst h0
    go_enter Tryd.func39, Tryd.ntmps39
    go_wp2_with fail
    go_ret
    exact ⟨rfl, Only.refl _ _⟩
  · by_cases h1 : k = 1
    · subst h1
      go_enter Tryd.func39, Tryd.ntmps39
      go_wp2_with fail
      go_ret
      exact ⟨rfl, Only.refl _ _⟩
    · obtain ⟨b, hb⟩ : ∃ b, b = intraI k := ⟨_, rfl⟩
      rw [← hb]
      have e0 : (k == 0) = false := by simpa using h0
      have e1 : (k == 1) = false := by simpa using h1
      have e2 : (k == 2) = b := by rw [hb]; unfold intraI; rw [Bool.eq_iff_iff]; simp [h0, h1]
      clear hb h0 h1
      go_enter Tryd.func39, Tryd.ntmps39
      go_wp2_with fail
      go_ret
      exact ⟨rfl, Only.refl _ _⟩
theorem rparts_any (k : Int) (w : World) : Calls Tryd.prog 69 #[.int .u8 k] w fun e w' => e = .returned (.int .i64 (partsI k)) ∧ Only [] w w' := by
  go_enter Tryd.func69, Tryd.ntmps69
  go_wp2_with fail
  all_goals
    go_ret
    refine ⟨ret_int ?_, Only.refl _ _⟩
    unfold partsI
    repeat' split
    all_goals first | rfl | ((try simp only [beq_iff_eq, beq_eq_false_iff_ne, bne_iff_ne, bne_eq_false_iff_eq, ne_eq, decide_eq_true_eq, decide_eq_false_iff_not] at *); omega)
end Go.Proofs.YtpmmnjeomdjakaaDoor

end
section
set_option maxRecDepth 20000
namespace Go.Proofs.YtpmmnjeomdjakaaDoor
set_option linter.unusedVariables false
set_option linter.unusedSimpArgs false

/-- Which block: category, component, number. -/
abbrev Cod := Int × Int × Int
def codedI (k : Int) : Bool := decide (k ≤ 1) || (decide (3 ≤ k) && decide (k ≤ 6))
def interI (k : Int) : Bool := decide (3 ≤ k) && decide (k ≤ 6)

def sizeI (c : Int) : Int × Int := if c = 0 then (16, 0) else if c = 1 then (15, 0) else if c = 2 then (16, 0) else if c = 3 then (4, 0) else if c = 4 then (15, 0) else (0, 3)
/-- The luma blocks of the quarters before i. -/
def quarterB (cat : Int) (i : Nat) : List Cod := [(cat, 0, 4 * (i : Int)), (cat, 0, 4 * (i : Int) + 1), (cat, 0, 4 * (i : Int) + 2), (cat, 0, 4 * (i : Int) + 3)]
def lumaB (cat : Int) (cbp : Nat) : Nat → List Cod
  | 0 => []
  | i + 1 => lumaB cat cbp i ++ (if cbp / 2 ^ i % 2 = 1 then quarterB cat i else [])
def acB : List Cod := [(4, 0, 0), (4, 0, 1), (4, 0, 2), (4, 0, 3), (4, 1, 0), (4, 1, 1), (4, 1, 2), (4, 1, 3)]
def dcB : List Cod := [(3, 0, 0), (3, 1, 0)]
def firstB (k : Nat) : List Cod := if k = 1 then [(0, 0, 0)] else []
def catB (k : Nat) : Int := if k = 1 then 1 else 2
/-- The blocks that are coded. -/
def blocksL (k cbp : Nat) : List Cod :=
  if codedI k = true then firstB k ++ lumaB (catB k) cbp 4 ++ (if cbp / 16 = 0 then [] else dcB) ++ (if cbp / 16 = 2 then acB else []) else []
/-- A block among those that are there. -/
def findB : List Cod → List (List Int) → Cod → List Int × Bool
  | x :: l, b :: bs, c => if x = c then (b, true) else findB l bs c
  | _, _, _ => ([], false)
def absE (b : Bool) : Int := if b then 0 else 2
def rngE (b : Bool) : Int := if b then 0 else 3
def firstE : List Int → Int
  | [] => 0
  | e :: l => if e = 0 then firstE l else e
theorem firstE_append (a b : List Int) : firstE (a ++ b) = if firstE a = 0 then firstE b else firstE a := by
  induction a with
  | nil => rfl
  | cons x a ih =>
    rw [List.cons_append, firstE, firstE]
    by_cases h : x = 0
    · rw [if_pos h, if_pos h, ih]
    · rw [if_neg h, if_neg h, if_neg h]
theorem firstE_zero {l : List Int} : firstE l = 0 ↔ ∀ e, e ∈ l → e = 0 := by
  induction l with
  | nil => simp [firstE]
  | cons x l ih =>
    rw [firstE]
    by_cases h : x = 0
    · rw [if_pos h, ih]; simp [h]
    · rw [if_neg h]; simp [h]
def inI (n lo hi : Int) : Bool := decide (lo ≤ n) && decide (n ≤ hi)
/-- Mode, Chroma, Preds and Sub. -/
def modeE (x : MV) : Int := if x.kind = 1 then rngE (decide (x.mode ≤ 3)) else absE (decide (x.mode = 0))
def chromaE (x : MV) : Int := if x.kind = 0 ∨ x.kind = 1 then rngE (decide (x.chroma ≤ 3)) else absE (decide (x.chroma = 0))
def predE (k p : Int) : Int := if k = 0 then rngE (decide (p ≤ 8)) else absE (decide (p = 0))
def subE (k p : Int) : Int := if k = 6 then rngE (decide (p ≤ 3)) else absE (decide (p = 0))
def smallE (x : MV) : List Int := [modeE x, chromaE x] ++ x.pr.l.map (predE x.kind) ++ x.sb.l.map (subE x.kind)
def subN (s : S4) : List Nat := [s.s0.toNat, s.s1.toNat, s.s2.toNat, s.s3.toNat]
def refE (refs r : Int) : Int := rngE (inI r 0 (refs - 1))
def mvdE (v : Int × Int) : Int := rngE (inI v.1 (-8192) 8192 && inI v.2 (-8192) 8192)
/-- Refs and Mvds. -/
def motionE (x : MV) (refs : Int) : List Int :=
  if interI x.kind = true then [absE (decide ((x.refs.length : Int) = partsI x.kind))] ++ x.refs.map (refE refs) ++ [absE (decide ((x.mvds.length : Int) = (piecesN x.kind.toNat (subN x.sb)).1))] ++ x.mvds.map mvdE
  else [absE (decide (x.refs = [])), absE (decide (x.mvds = []))]
def cbpE (x : MV) : Int := if codedI x.kind = true then rngE (decide (x.cbp ≤ 47) && (!decide (x.kind = 1) || decide (x.cbp % 16 = 0) || decide (x.cbp % 16 = 15))) else absE (decide (x.cbp = 0))
def qpE (x : MV) : Int := if x.kind = 1 ∨ (codedI x.kind = true ∧ x.cbp ≠ 0) then rngE (inI x.qp (-26) 25) else absE (decide (x.qp = 0))
def levE (n : Int) : Int := rngE (inI n (-32768) 32768)
def blkE (c : Cod) (b : List Int) : List Int := absE (decide ((b.length : Int) = (sizeI c.1).1)) :: b.map levE
def blksE : List Cod → List (List Int) → List Int
  | c :: l, b :: bs => blkE c b ++ blksE l bs
  | _, _ => []
def pcmE (x : MV) : Int := if x.kind = 2 then absE (decide ((x.pcm.size : Int) = 384)) else absE (decide (x.pcm = .empty))
def whichL (x : MV) : List Cod := blocksL x.kind.toNat x.cbp.toNat
/-- Cbp, Qp, Blocks and Pcm. -/
def restE (x : MV) : List Int := [cbpE x, qpE x, absE (decide (x.blocks.length = (whichL x).length))] ++ blksE (whichL x) x.blocks ++ [pcmE x]
def allE (x : MV) (refs : Int) : List Int := smallE x ++ motionE x refs ++ restE x
def refsOk (intra : Bool) (refs : Int) : Bool := if intra then decide (refs = 0) else inI refs 1 32
def kindOk (k : Int) (intra : Bool) : Bool := decide (k ≤ 7) && (!intra || intraI k)
/-- What Check answers. -/
def checkI (x : MV) (intra : Bool) (refs : Int) : Int :=
  if refsOk intra refs = false then 2 else if kindOk x.kind intra = false then 9 else firstE (allE x refs)
theorem findB_none : ∀ (l : List Cod) (c : Cod), findB l [] c = ([], false) := fun l c => by cases l <;> rfl
end Go.Proofs.YtpmmnjeomdjakaaDoor

end

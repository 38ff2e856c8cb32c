/- Plain: slice headers as values, the fields that they have, what checks, writes and reads them. -/
/- Plain: a header is read as it was written, and would be written as it was read; codes of headers. -/
/- The reference's Scan: Ue and Kind; and a round of Read in plain words. -/
import Derived.Test.YtjjjfmnhdnajkaaGreatDoorMg1
import Derived.Test.YtjjjfmnhdnajkaaGreatDoorMg5
import Derived.Test.YtjjjfmnhdnajkaaGreatDoorMg6
import Derived.Test.YtjjjfmnhdnajkaaGreatDoorMg8
section
set_option maxRecDepth 20000
namespace Go.Proofs.YtjjjfmnhdnajkaaGreatDoor
set_option linter.unusedVariables false
set_option linter.unusedSimpArgs false

/-- A slice header. -/
structure HV where
  fi : Int
  intra : Bool
  whole : Bool
  pps : Int
  fr : Int
  idr : Int
  poc : Int
  over : Bool
  refs : Int
  listed : Bool
  mods : List (Int × Int × Int)
  f0 : Bool
  f1 : Bool
  ad : Bool
  marks : List (Int × Int × Int)
  ini : Int
  qp : Int
  fil : Int
  a : Int
  b : Int
theorem HV.eq_iff (x y : HV) : x = y ↔ x.fi = y.fi ∧ x.intra = y.intra ∧ x.whole = y.whole ∧ x.pps = y.pps ∧ x.fr = y.fr ∧ x.idr = y.idr ∧ x.poc = y.poc ∧ x.over = y.over ∧ x.refs = y.refs ∧ x.listed = y.listed ∧ x.mods = y.mods ∧ x.f0 = y.f0 ∧ x.f1 = y.f1 ∧ x.ad = y.ad ∧ x.marks = y.marks ∧ x.ini = y.ini ∧ x.qp = y.qp ∧ x.fil = y.fil ∧ x.a = y.a ∧ x.b = y.b := by
  cases x; cases y; simp
instance instDecHV : DecidableEq HV := fun a b => decidable_of_iff _ (HV.eq_iff a b).symm
def h0 : HV := ⟨0, false, false, 0, 0, 0, 0, false, 0, false, [], false, false, false, [], 0, 0, 0, 0, 0⟩
/-- A unit, with its parameter sets. -/
structure UN where
  ref : Int
  idr : Bool
  p : PV
  s : SV
/-- How a number is written. -/
inductive Cd where
  | u (n : Int)
  | ue (lo hi : Int)
  | se (lo hi : Int)
def Cd.lo : Cd → Int
  | .u _ => 0
  | .ue a _ => a
  | .se a _ => a
def Cd.hi : Cd → Int
  | .u n => 2 ^ n.toNat - 1
  | .ue _ b => b
  | .se _ b => b
/-- The codes that fields have. -/
def cdOk : Cd → Prop
  | .u n => 0 ≤ n ∧ n ≤ 16
  | .ue a b => 0 ≤ a ∧ a ≤ 1 ∧ a ≤ b ∧ b ≤ 100000
  | .se a b => -100 ≤ a ∧ a ≤ b ∧ b ≤ 100
def numC (c : Cd) (v : Int) : Int := if v < c.lo ∨ c.hi < v then 3 else 0
theorem numC_iff {c : Cd} {v : Int} : numC c v = 0 ↔ c.lo ≤ v ∧ v ≤ c.hi := by
  unfold numC
  by_cases k : v < c.lo ∨ c.hi < v
  · rw [if_pos k]
    exact ⟨fun h => absurd h (by decide), fun h => by omega⟩
  · rw [if_neg k]
    exact ⟨fun _ => by omega, fun _ => rfl⟩
def cdBits : Cd → Int → List Bool
  | .u n, v => bitsOf n.toNat v.toNat
  | .ue a _, v => ueBits (v - a).toNat
  | .se _ _, v => ueBits (seNum v)
/-- What is done with numbers and lists, and what may be done. -/
structure Mach (σ : Type) where
  num : Cd → Int → σ → Int × Int × σ
  lst : Bool → List (Int × Int × Int) → σ → Int × List (Int × Int × Int) × σ
  okN : Cd → Int → Prop
  okL : Bool → List (Int × Int × Int) → Prop
def b2i (b : Bool) : Int := if b = true then 1 else 0
def isOne (n : Int) : Bool := decide (n = 1)
theorem isOne_b2i (v : Bool) : isOne (b2i v) = v := by cases v <;> rfl
section
variable {σ : Type} (M : Mach σ)
def numF (has : Bool) (v : Int) (set : Int → HV) (c : Cd) (st : σ) : Int × HV × σ :=
  if has = true then ((M.num c v st).1, set (M.num c v st).2.1, (M.num c v st).2.2) else (if v = 0 then 0 else 2, set v, st)
def flagF (has : Bool) (v : Bool) (set : Bool → HV) (st : σ) : Int × HV × σ :=
  if has = true then ((M.num (.u 1) (b2i v) st).1, set (isOne (M.num (.u 1) (b2i v) st).2.1), (M.num (.u 1) (b2i v) st).2.2) else (if v = false then 0 else 2, set v, st)
def lstF (has m : Bool) (v : List (Int × Int × Int)) (set : List (Int × Int × Int) → HV) (st : σ) : Int × HV × σ :=
  if has = true then ((M.lst m v st).1, set (M.lst m v st).2.1, (M.lst m v st).2.2) else (if v = [] then 0 else 2, set v, st)
/-- One after another. -/
def thenF (r : Int × HV × σ) (f : HV → σ → Int × HV × σ) : Int × HV × σ := if r.1 ≠ 0 then r else f r.2.1 r.2.2
def fltH (un : UN) (x : HV) : Bool := un.p.db && decide (x.fil ≠ 1)
def iniH (un : UN) (x : HV) : Bool := (!x.intra) && un.p.cab
def adH (un : UN) : Bool := (!un.idr) && decide (0 < un.ref)
def qpC (un : UN) : Cd := .se (-(26 + un.p.qp)) (51 - (26 + un.p.qp))
/-- The fields after Pps. -/
def stepH (un : UN) : Nat → HV → σ → Int × HV × σ
  | 0, x, st => numF M true x.fr (fun v => { x with fr := v }) (.u un.s.fb) st
  | 1, x, st => numF M un.idr x.idr (fun v => { x with idr := v }) (.ue 0 65535) st
  | 2, x, st => numF M true x.poc (fun v => { x with poc := v }) (.u un.s.pb) st
  | 3, x, st => flagF M (!x.intra) x.over (fun v => { x with over := v }) st
  | 4, x, st => numF M x.over x.refs (fun v => { x with refs := v }) (.ue 1 32) st
  | 5, x, st => flagF M (!x.intra) x.listed (fun v => { x with listed := v }) st
  | 6, x, st => lstF M x.listed false x.mods (fun v => { x with mods := v }) st
  | 7, x, st => thenF (flagF M un.idr x.f0 (fun v => { x with f0 := v }) st) (fun x st => flagF M un.idr x.f1 (fun v => { x with f1 := v }) st)
  | 8, x, st => flagF M (adH un) x.ad (fun v => { x with ad := v }) st
  | 9, x, st => lstF M x.ad true x.marks (fun v => { x with marks := v }) st
  | 10, x, st => numF M (iniH un x) x.ini (fun v => { x with ini := v }) (.ue 0 2) st
  | 11, x, st => numF M true x.qp (fun v => { x with qp := v }) (qpC un) st
  | 12, x, st => numF M un.p.db x.fil (fun v => { x with fil := v }) (.ue 0 2) st
  | 13, x, st => numF M (fltH un x) x.a (fun v => { x with a := v }) (.se (-6) 6) st
  | 14, x, st => numF M (fltH un x) x.b (fun v => { x with b := v }) (.se (-6) 6) st
  | _, x, st => (0, x, st)
/-- What must hold ahead of a step. -/
def stepOk (un : UN) : Nat → HV → Prop
  | 0, x => M.okN (.u un.s.fb) x.fr
  | 1, x => un.idr = true → M.okN (.ue 0 65535) x.idr
  | 2, x => M.okN (.u un.s.pb) x.poc
  | 3, x => (!x.intra) = true → M.okN (.u 1) (b2i x.over)
  | 4, x => x.over = true → M.okN (.ue 1 32) x.refs
  | 5, x => (!x.intra) = true → M.okN (.u 1) (b2i x.listed)
  | 6, x => x.listed = true → M.okL false x.mods
  | 7, x => un.idr = true → M.okN (.u 1) (b2i x.f0) ∧ M.okN (.u 1) (b2i x.f1)
  | 8, x => adH un = true → M.okN (.u 1) (b2i x.ad)
  | 9, x => x.ad = true → M.okL true x.marks
  | 10, x => iniH un x = true → M.okN (.ue 0 2) x.ini
  | 11, x => M.okN (qpC un) x.qp
  | 12, x => un.p.db = true → M.okN (.ue 0 2) x.fil
  | 13, x => fltH un x = true → M.okN (.se (-6) 6) x.a
  | 14, x => fltH un x = true → M.okN (.se (-6) 6) x.b
  | _, _ => True
def runH (un : UN) : Nat → Nat → HV → σ → Int × HV × σ
  | 0, _, x, st => (0, x, st)
  | k + 1, j, x, st => thenF (stepH M un j x st) (fun x st => runH un k (j + 1) x st)
end
/-- Checking. -/
def chM : Mach Unit where
  num c v st := (numC c v, v, st)
  lst m l st := (checkI m l, l, st)
  okN _ _ := True
  okL _ l := OksM l
/-- Writing, of what is valid. -/
def ptM : Mach (List Bool) where
  num c v L := (0, v, L ++ cdBits c v)
  lst m l L := (0, l, L ++ listB m l)
  okN c v := numC c v = 0
  okL m l := checkI m l = 0 ∧ OksM l
/-- Reading. -/
def rdC (s : ByteArray) (q : Nat) : Cd → Int × Int × Nat
  | .u n => (((rdU s q n).1 : Int), (rdU s q n).2.1, (rdU s q n).2.2)
  | .ue a _ => (a + ((rdUk s q 0).1 : Int), (rdUk s q 0).2.1, (rdUk s q 0).2.2)
  | .se _ _ => (seVal (rdUk s q 0).1, (rdUk s q 0).2.1, (rdUk s q 0).2.2)
def rdM (s : ByteArray) : Mach Nat where
  num c _ q := (if (rdC s q c).2.1 ≠ 0 then (rdC s q c).2.1 else numC c (rdC s q c).1, (rdC s q c).1, (rdC s q c).2.2)
  lst m _ q := ((readI m s q).2.1, (readI m s q).1, (readI m s q).2.2)
  okN _ _ := True
  okL _ _ := True
/-- The error of a field, and its bits. -/
def numE (has : Bool) (v : Int) (c : Cd) : Int := if has = true then numC c v else if v = 0 then 0 else 2
def flagE (has v : Bool) : Int := if has = true then 0 else if v = false then 0 else 2
def lstE (has m : Bool) (l : List (Int × Int × Int)) : Int := if has = true then checkI m l else if l = [] then 0 else 2
def stepE (un : UN) (x : HV) : Nat → Int
  | 0 => numE true x.fr (.u un.s.fb)
  | 1 => numE un.idr x.idr (.ue 0 65535)
  | 2 => numE true x.poc (.u un.s.pb)
  | 3 => flagE (!x.intra) x.over
  | 4 => numE x.over x.refs (.ue 1 32)
  | 5 => flagE (!x.intra) x.listed
  | 6 => lstE x.listed false x.mods
  | 7 => if flagE un.idr x.f0 ≠ 0 then flagE un.idr x.f0 else flagE un.idr x.f1
  | 8 => flagE (adH un) x.ad
  | 9 => lstE x.ad true x.marks
  | 10 => numE (iniH un x) x.ini (.ue 0 2)
  | 11 => numE true x.qp (qpC un)
  | 12 => numE un.p.db x.fil (.ue 0 2)
  | 13 => numE (fltH un x) x.a (.se (-6) 6)
  | 14 => numE (fltH un x) x.b (.se (-6) 6)
  | _ => 0
def numB (has : Bool) (v : Int) (c : Cd) : List Bool := if has = true then cdBits c v else []
def flagB (has v : Bool) : List Bool := if has = true then [v] else []
def lstB (has m : Bool) (l : List (Int × Int × Int)) : List Bool := if has = true then listB m l else []
def stepB (un : UN) (x : HV) : Nat → List Bool
  | 0 => numB true x.fr (.u un.s.fb)
  | 1 => numB un.idr x.idr (.ue 0 65535)
  | 2 => numB true x.poc (.u un.s.pb)
  | 3 => flagB (!x.intra) x.over
  | 4 => numB x.over x.refs (.ue 1 32)
  | 5 => flagB (!x.intra) x.listed
  | 6 => lstB x.listed false x.mods
  | 7 => flagB un.idr x.f0 ++ flagB un.idr x.f1
  | 8 => flagB (adH un) x.ad
  | 9 => lstB x.ad true x.marks
  | 10 => numB (iniH un x) x.ini (.ue 0 2)
  | 11 => numB true x.qp (qpC un)
  | 12 => numB un.p.db x.fil (.ue 0 2)
  | 13 => numB (fltH un x) x.a (.se (-6) 6)
  | 14 => numB (fltH un x) x.b (.se (-6) 6)
  | _ => []
/-- From the field j on: the first error, the bits. -/
def restE (un : UN) (x : HV) : Nat → Nat → Int
  | 0, _ => 0
  | k + 1, j => if stepE un x j ≠ 0 then stepE un x j else restE un x k (j + 1)
def restB (un : UN) (x : HV) : Nat → Nat → List Bool
  | 0, _ => []
  | k + 1, j => stepB un x j ++ restB un x k (j + 1)
/-- The fields up to Pps. -/
def isU (un : UN) : Bool := decide (un.ref ≤ 3) && (decide (0 < un.ref) || !un.idr)
def firstC (un : UN) : Cd := .ue 0 (un.s.wd * un.s.ht - 1)
def beginE (un : UN) (x : HV) : Int := if numC (firstC un) x.fi ≠ 0 then 3 else if un.idr = true ∧ x.intra = false then 9 else if x.pps ≠ un.p.id then 2 else 0
def kindH (x : HV) : Nat := (if x.intra = true then 2 else 0) + (if x.whole = true then 5 else 0)
def beginB (x : HV) : List Bool := ueBits x.fi.toNat ++ (ueBits (kindH x) ++ ueBits x.pps.toNat)
/-- What Check answers. -/
def unE (un : UN) : Int := if isU un = false then 2 else if okS un.s = false then 3 else if okP un.p = false then 3 else if un.p.sps ≠ un.s.id then 2 else 0
def checkH (un : UN) (x : HV) : Int := if unE un ≠ 0 then unE un else if beginE un x ≠ 0 then beginE un x else restE un x 15 0
def bitsH (un : UN) (x : HV) : List Bool := beginB x ++ restB un x 15 0
def putH (un : UN) (x : HV) (L : List Bool) : Int × List Bool := if checkH un x ≠ 0 then (checkH un x, L) else (0, L ++ bitsH un x)
/-- What setKind makes of a number: an error, Intra, Whole. -/
def kindR (idr : Bool) (k : Nat) : Int × Bool × Bool := if k = 0 ∨ k = 5 then (if idr = true then 9 else 0, false, decide (5 ≤ k)) else if k = 2 ∨ k = 7 then (0, true, decide (5 ≤ k)) else (9, false, false)
/-- What Read answers: an error, a header, the place behind it. -/
def readB (s : ByteArray) (pos : Nat) (ref : Int) (idr : Bool) (f : Int → Option SV) (g : Int → Option PV) : Int × UN × HV × Nat :=
  if (rdUk s pos 0).2.1 ≠ 0 then ((rdUk s pos 0).2.1, ⟨ref, idr, p0, s0⟩, h0, 0)
  else if (rdUk s (rdUk s pos 0).2.2 0).2.1 ≠ 0 then ((rdUk s (rdUk s pos 0).2.2 0).2.1, ⟨ref, idr, p0, s0⟩, h0, 0)
  else if (kindR idr (rdUk s (rdUk s pos 0).2.2 0).1).1 ≠ 0 then (9, ⟨ref, idr, p0, s0⟩, h0, 0)
  else if (rdUk s (rdUk s (rdUk s pos 0).2.2 0).2.2 0).2.1 ≠ 0 then ((rdUk s (rdUk s (rdUk s pos 0).2.2 0).2.2 0).2.1, ⟨ref, idr, p0, s0⟩, h0, 0)
  else if (getR f g (rdUk s (rdUk s (rdUk s pos 0).2.2 0).2.2 0).1).2.2 ≠ 0 then ((getR f g (rdUk s (rdUk s (rdUk s pos 0).2.2 0).2.2 0).1).2.2, ⟨ref, idr, p0, s0⟩, h0, 0)
  else
    (numC (firstC ⟨ref, idr, (getR f g (rdUk s (rdUk s (rdUk s pos 0).2.2 0).2.2 0).1).1, (getR f g (rdUk s (rdUk s (rdUk s pos 0).2.2 0).2.2 0).1).2.1⟩) (rdUk s pos 0).1,
      ⟨ref, idr, (getR f g (rdUk s (rdUk s (rdUk s pos 0).2.2 0).2.2 0).1).1, (getR f g (rdUk s (rdUk s (rdUk s pos 0).2.2 0).2.2 0).1).2.1⟩,
      { h0 with fi := (rdUk s pos 0).1, intra := (kindR idr (rdUk s (rdUk s pos 0).2.2 0).1).2.1, whole := (kindR idr (rdUk s (rdUk s pos 0).2.2 0).1).2.2, pps := (rdUk s (rdUk s (rdUk s pos 0).2.2 0).2.2 0).1 },
      (rdUk s (rdUk s (rdUk s pos 0).2.2 0).2.2 0).2.2)
def readT (s : ByteArray) (r : Int × UN × HV × Nat) : Int × HV × Nat :=
  if r.1 ≠ 0 then (r.1, h0, 0) else thenF (runH (rdM s) r.2.1 15 0 r.2.2.1 r.2.2.2) (fun x q => (0, x, q))
def readH (s : ByteArray) (pos : Nat) (ref : Int) (idr : Bool) (f : Int → Option SV) (g : Int → Option PV) : Int × HV × Nat :=
  if ¬ (ref ≤ 3 ∧ (0 < ref ∨ idr = false)) then (2, h0, pos)
  else if (readT s (readB s pos ref idr f g)).1 ≠ 0 then ((readT s (readB s pos ref idr f g)).1, h0, pos) else readT s (readB s pos ref idr f g)

/-! ### Checking and writing, step by step. -/
theorem chk_step (un : UN) (x : HV) (j : Nat) : stepH chM un j x () = (stepE un x j, x, ()) := by
  have hn : ∀ has v set c, set v = x → numF chM has v set c () = (numE has v c, x, ()) := by
    intro has v set c e
    cases has <;> simp [numF, numE, chM, e]
  have hf : ∀ has v set, set v = x → flagF chM has v set () = (flagE has v, x, ()) := by
    intro has v set e
    cases has <;> cases v <;> simp [flagF, flagE, chM, e, b2i, isOne, numC, Cd.lo, Cd.hi]
  have hl : ∀ has m v set, set v = x → lstF chM has m v set () = (lstE has m v, x, ()) := by
    intro has m v set e
    cases has <;> simp [lstF, lstE, chM, e]
  match j with
  | 0 => exact hn true x.fr (fun v => { x with fr := v }) (.u un.s.fb) rfl
  | 1 => exact hn un.idr x.idr (fun v => { x with idr := v }) (.ue 0 65535) rfl
  | 2 => exact hn true x.poc (fun v => { x with poc := v }) (.u un.s.pb) rfl
  | 3 => exact hf (!x.intra) x.over (fun v => { x with over := v }) rfl
  | 4 => exact hn x.over x.refs (fun v => { x with refs := v }) (.ue 1 32) rfl
  | 5 => exact hf (!x.intra) x.listed (fun v => { x with listed := v }) rfl
  | 6 => exact hl x.listed false x.mods (fun v => { x with mods := v }) rfl
  | 7 =>
    rw [stepH, hf un.idr x.f0 (fun v => { x with f0 := v }) rfl]
    unfold thenF stepE
    by_cases h : flagE un.idr x.f0 = 0
    · simp only [h, ne_eq, not_true_eq_false, if_false]; exact hf un.idr x.f1 (fun v => { x with f1 := v }) rfl
    · simp only [ne_eq, h, not_false_eq_true, if_true]
  | 8 => exact hf (adH un) x.ad (fun v => { x with ad := v }) rfl
  | 9 => exact hl x.ad true x.marks (fun v => { x with marks := v }) rfl
  | 10 => exact hn (iniH un x) x.ini (fun v => { x with ini := v }) (.ue 0 2) rfl
  | 11 => exact hn true x.qp (fun v => { x with qp := v }) (qpC un) rfl
  | 12 => exact hn un.p.db x.fil (fun v => { x with fil := v }) (.ue 0 2) rfl
  | 13 => exact hn (fltH un x) x.a (fun v => { x with a := v }) (.se (-6) 6) rfl
  | 14 => exact hn (fltH un x) x.b (fun v => { x with b := v }) (.se (-6) 6) rfl
  | n + 15 => rfl
theorem chk_run (un : UN) (x : HV) : ∀ k j, runH chM un k j x () = (restE un x k j, x, ()) := by
  intro k
  induction k with
  | zero => intro j; rfl
  | succ k ih =>
    intro j
    rw [runH, chk_step, restE]
    unfold thenF
    by_cases h : stepE un x j = 0
    · simp only [h, ne_eq, not_true_eq_false, if_false]; exact ih _
    · simp only [ne_eq, h, not_false_eq_true, if_true]
theorem chk_ok (un : UN) (x : HV) (j : Nat) (h1 : OksM x.mods) (h2 : OksM x.marks) : stepOk chM un j x := by
  match j with
  | 0 => trivial
  | 1 => exact fun _ => trivial
  | 2 => trivial
  | 3 => exact fun _ => trivial
  | 4 => exact fun _ => trivial
  | 5 => exact fun _ => trivial
  | 6 => exact fun _ => h1
  | 7 => exact fun _ => ⟨trivial, trivial⟩
  | 8 => exact fun _ => trivial
  | 9 => exact fun _ => h2
  | 10 => exact fun _ => trivial
  | 11 => trivial
  | 12 => exact fun _ => trivial
  | 13 => exact fun _ => trivial
  | 14 => exact fun _ => trivial
  | n + 15 => trivial
theorem rd_ok (s : ByteArray) (un : UN) (x : HV) (j : Nat) : stepOk (rdM s) un j x := by
  match j with
  | 0 => trivial
  | 1 => exact fun _ => trivial
  | 2 => trivial
  | 3 => exact fun _ => trivial
  | 4 => exact fun _ => trivial
  | 5 => exact fun _ => trivial
  | 6 => exact fun _ => trivial
  | 7 => exact fun _ => ⟨trivial, trivial⟩
  | 8 => exact fun _ => trivial
  | 9 => exact fun _ => trivial
  | 10 => exact fun _ => trivial
  | 11 => trivial
  | 12 => exact fun _ => trivial
  | 13 => exact fun _ => trivial
  | 14 => exact fun _ => trivial
  | n + 15 => trivial
theorem bit1 (v : Bool) : bitsOf 1 (b2i v).toNat = [v] := by cases v <;> decide
theorem numC_bit (v : Bool) : numC (.u 1) (b2i v) = 0 := by cases v <;> decide
theorem put_step (un : UN) (x : HV) (j : Nat) (L : List Bool) (k1 : OksM x.mods) (k2 : OksM x.marks) (h : stepE un x j = 0) : stepH ptM un j x L = (0, x, L ++ stepB un x j) ∧ stepOk ptM un j x := by
  have hn : ∀ has v set c, set v = x → numE has v c = 0 → numF ptM has v set c L = (0, x, L ++ numB has v c) ∧ (has = true → ptM.okN c v) := by
    intro has v set c e h
    cases has
    · simp only [numE, Bool.false_eq_true, if_false] at h
      refine ⟨?_, fun h => by cases h⟩
      simp only [numF, numB, Bool.false_eq_true, if_false, h, List.append_nil, e]
    · simp only [numE, if_true] at h
      refine ⟨?_, fun _ => h⟩
      simp only [numF, numB, if_true, ptM, e]
  have hf : ∀ (L : List Bool) has v set, set v = x → flagE has v = 0 → flagF ptM has v set L = (0, x, L ++ flagB has v) ∧ (has = true → ptM.okN (.u 1) (b2i v)) := by
    intro L has v set e h
    cases has
    · simp only [flagE, Bool.false_eq_true, if_false] at h
      refine ⟨?_, fun h => by cases h⟩
      simp only [flagF, flagB, Bool.false_eq_true, if_false, h, List.append_nil, e]
    · refine ⟨?_, fun _ => numC_bit v⟩
      simp only [flagF, flagB, if_true, ptM, cdBits]
      rw [isOne_b2i, e, show (1 : Int).toNat = 1 from rfl, bit1]
  have hl : ∀ has m v set, set v = x → OksM v → lstE has m v = 0 → lstF ptM has m v set L = (0, x, L ++ lstB has m v) ∧ (has = true → ptM.okL m v) := by
    intro has m v set e ko h
    cases has
    · simp only [lstE, Bool.false_eq_true, if_false] at h
      refine ⟨?_, fun h => by cases h⟩
      simp only [lstF, lstB, Bool.false_eq_true, if_false, h, List.append_nil, e]
    · simp only [lstE, if_true] at h
      refine ⟨?_, fun _ => ⟨h, ko⟩⟩
      simp only [lstF, lstB, if_true, ptM, e]
  match j, h with
  | 0, h => exact ⟨(hn true x.fr (fun v => { x with fr := v }) (.u un.s.fb) rfl h).1, (hn true _ (fun v => { x with fr := v }) _ rfl h).2 rfl⟩
  | 1, h => exact hn un.idr x.idr (fun v => { x with idr := v }) (.ue 0 65535) rfl h
  | 2, h => exact ⟨(hn true x.poc (fun v => { x with poc := v }) (.u un.s.pb) rfl h).1, (hn true _ (fun v => { x with poc := v }) _ rfl h).2 rfl⟩
  | 3, h => exact hf L (!x.intra) x.over (fun v => { x with over := v }) rfl h
  | 4, h => exact hn x.over x.refs (fun v => { x with refs := v }) (.ue 1 32) rfl h
  | 5, h => exact hf L (!x.intra) x.listed (fun v => { x with listed := v }) rfl h
  | 6, h => exact hl x.listed false x.mods (fun v => { x with mods := v }) rfl k1 h
  | 7, h =>
    have h1 : flagE un.idr x.f0 = 0 := by
      unfold stepE at h
      by_cases e : flagE un.idr x.f0 = 0
      · exact e
      · rw [if_pos e] at h; exact h
    have h2 : flagE un.idr x.f1 = 0 := by
      unfold stepE at h
      rw [if_neg (fun k => k h1)] at h; exact h
    have a := hf L un.idr x.f0 (fun v => { x with f0 := v }) rfl h1
    have b := hf (L ++ flagB un.idr x.f0) un.idr x.f1 (fun v => { x with f1 := v }) rfl h2
    refine ⟨?_, fun e => ⟨a.2 e, b.2 e⟩⟩
    rw [stepH, a.1]
    unfold thenF
    rw [if_neg (by simp)]
    exact b.1.trans (by rw [List.append_assoc]; rfl)
  | 8, h => exact hf L (adH un) x.ad (fun v => { x with ad := v }) rfl h
  | 9, h => exact hl x.ad true x.marks (fun v => { x with marks := v }) rfl k2 h
  | 10, h => exact hn (iniH un x) x.ini (fun v => { x with ini := v }) (.ue 0 2) rfl h
  | 11, h => exact ⟨(hn true x.qp (fun v => { x with qp := v }) (qpC un) rfl h).1, (hn true _ (fun v => { x with qp := v }) _ rfl h).2 rfl⟩
  | 12, h => exact hn un.p.db x.fil (fun v => { x with fil := v }) (.ue 0 2) rfl h
  | 13, h => exact hn (fltH un x) x.a (fun v => { x with a := v }) (.se (-6) 6) rfl h
  | 14, h => exact hn (fltH un x) x.b (fun v => { x with b := v }) (.se (-6) 6) rfl h
  | n + 15, h => exact ⟨by show (0, x, L) = _; rw [show stepB un x (n + 15) = [] from rfl, List.append_nil], trivial⟩
theorem stepH_seven {σ : Type} (M : Mach σ) (un : UN) (x : HV) (st : σ) : stepH M un 7 x st = thenF (flagF M un.idr x.f0 (fun v => { x with f0 := v }) st) (fun x st => flagF M un.idr x.f1 (fun v => { x with f1 := v }) st) := rfl
theorem restE_cons {un : UN} {x : HV} {k j : Nat} (h : restE un x (k + 1) j = 0) : stepE un x j = 0 ∧ restE un x k (j + 1) = 0 := by
  rw [restE] at h
  by_cases e : stepE un x j = 0
  · rw [if_neg (fun k => k e)] at h; exact ⟨e, h⟩
  · rw [if_pos e] at h; exact absurd h e
theorem put_run (un : UN) (x : HV) (k1 : OksM x.mods) (k2 : OksM x.marks) : ∀ k j L, restE un x k j = 0 → runH ptM un k j x L = (0, x, L ++ restB un x k j) := by
  intro k
  induction k with
  | zero => intro j L _; simp [runH, restB]
  | succ k ih =>
    intro j L h
    obtain ⟨h1, h2⟩ := restE_cons h
    rw [runH, (put_step un x j L k1 k2 h1).1, restB]
    unfold thenF
    rw [if_neg (by simp)]
    simp only
    rw [ih _ _ h2, List.append_assoc]

/-! ### Reading what was written. -/
theorem seNum_val (v : Nat) : seNum (seVal v) = v := by
  unfold seVal seNum
  by_cases h : v % 2 = 1
  · rw [if_pos h, if_pos (by omega)]; omega
  · rw [if_neg h]
    by_cases h2 : 0 < -((v : Int) / 2)
    · omega
    · rw [if_neg h2]; omega
theorem seVal_num (v : Int) : seVal (seNum v) = v := by
  unfold seVal seNum
  by_cases h : 0 < v
  · rw [if_pos h, if_pos (by omega)]; omega
  · rw [if_neg h, if_neg (by omega)]; omega
theorem begins_val (s : ByteArray) (q n : Nat) (h : q + n ≤ 8 * s.size) : Begins s q (bitsOf n (valOf s q n)) := by
  refine ⟨by rw [length_bitsOf]; exact h, fun j hj => ?_⟩
  rw [length_bitsOf] at hj
  rw [bitL_bitsOf, valOf_eq, valF_bit _ _ _ _ hj]
  simp [hj]
theorem seNum_le {v : Int} (h1 : -100 ≤ v) (h2 : v ≤ 100) : seNum v ≤ 200 := by unfold seNum; split <;> omega
/-- A number is read as it was written. -/
theorem rdC_of {c : Cd} {v : Int} {s : ByteArray} {q : Nat} (k : cdOk c) (h : numC c v = 0) (hb : Begins s q (cdBits c v)) : rdC s q c = (v, 0, q + (cdBits c v).length) := by
  have h' : c.lo ≤ v ∧ v ≤ c.hi := by unfold numC at h; split at h; (exact absurd h (by decide)); omega
  cases c with
  | u n =>
    obtain ⟨k1, k2⟩ := k
    simp only [Cd.lo, Cd.hi] at h'
    have hp : (2 : Int) ^ n.toNat = ((2 ^ n.toNat : Nat) : Int) := by rw [Int.natCast_pow]; rfl
    have hv : v.toNat < 2 ^ n.toNat := by rw [hp] at h'; omega
    have hl := hb.1
    simp only [cdBits, length_bitsOf] at hl hb ⊢
    have e := hb.val hv
    simp only [rdC, rdU]
    rw [if_neg (by omega), if_neg (by omega), e]
    simp only [Prod.mk.injEq, and_true]
    omega
  | ue a b =>
    obtain ⟨k1, k2, k3, k4⟩ := k
    simp only [Cd.lo, Cd.hi] at h'
    simp only [cdBits] at hb ⊢
    simp only [rdC]
    rw [read_ue (by omega) hb]
    simp only [Prod.mk.injEq, and_true]
    omega
  | se a b =>
    obtain ⟨k1, k2, k3⟩ := k
    simp only [Cd.lo, Cd.hi] at h'
    simp only [cdBits] at hb ⊢
    simp only [rdC]
    rw [read_ue (by have := seNum_le (v := v) (by omega) (by omega); omega) hb, seVal_num]
/-- .. and would be written as it was read. -/
theorem rdC_back {c : Cd} {v : Int} {s : ByteArray} {q p : Nat} (k : cdOk c) (hq : q ≤ 8 * s.size) (h : rdC s q c = (v, 0, p)) (hr : numC c v = 0) : Begins s q (cdBits c v) ∧ p = q + (cdBits c v).length := by
  cases c with
  | u n =>
    obtain ⟨k1, k2⟩ := k
    simp only [rdC, rdU] at h
    rw [if_neg (by omega)] at h
    by_cases hs : 8 * s.size < q + n.toNat
    · rw [if_pos hs] at h; simp at h
    · rw [if_neg hs] at h
      simp only [Prod.mk.injEq, true_and] at h
      obtain ⟨rfl, rfl⟩ := h
      simp only [cdBits, Int.toNat_natCast, length_bitsOf]
      exact ⟨begins_val s q _ (by omega), trivial⟩
  | ue a b =>
    simp only [rdC] at h
    obtain ⟨x, e, p'⟩ : ∃ x e p', rdUk s q 0 = (x, e, p') := ⟨_, _, _, rfl⟩
    obtain ⟨p', hx⟩ := p'
    rw [hx] at h
    simp only [Prod.mk.injEq] at h
    obtain ⟨rfl, rfl, rfl⟩ := h
    obtain ⟨_, h2, h3⟩ := ue_back hq hx
    simp only [cdBits]
    rw [show (a + (x : Int) - a).toNat = x by omega]
    exact ⟨h2, h3⟩
  | se a b =>
    simp only [rdC] at h
    obtain ⟨x, e, p'⟩ : ∃ x e p', rdUk s q 0 = (x, e, p') := ⟨_, _, _, rfl⟩
    obtain ⟨p', hx⟩ := p'
    rw [hx] at h
    simp only [Prod.mk.injEq] at h
    obtain ⟨rfl, rfl, rfl⟩ := h
    obtain ⟨_, h2, h3⟩ := ue_back hq hx
    simp only [cdBits]
    rw [seNum_val]
    exact ⟨h2, h3⟩
theorem b2i_of (n : Int) (h : numC (.u 1) n = 0) : n = b2i (isOne n) := by
  have h' : 0 ≤ n ∧ n ≤ 1 := by
    by_cases k : n < (Cd.u 1).lo ∨ (Cd.u 1).hi < n
    · unfold numC at h; rw [if_pos k] at h; exact absurd h (by decide)
    · have e1 : (Cd.u 1).lo = 0 := rfl
      have e2 : (Cd.u 1).hi = 1 := by decide
      omega
  have : n = 0 ∨ n = 1 := by omega
  rcases this with rfl | rfl <;> rfl
section
variable {s : ByteArray} {q p : Nat}
theorem rdnum_of {has : Bool} {v : Int} {c : Cd} (set : Int → HV) (k : cdOk c) (h : numE has v c = 0) (hb : Begins s q (numB has v c)) : numF (rdM s) has 0 set c q = (0, set v, q + (numB has v c).length) := by
  cases has with
  | false =>
    simp only [numE, Bool.false_eq_true, if_false] at h
    have : v = 0 := by
      by_cases e : v = 0
      · exact e
      · rw [if_neg e] at h; exact absurd h (by decide)
    subst this
    simp [numF, numB]
  | true =>
    simp only [numE, if_true] at h
    simp only [numB, if_true] at hb ⊢
    simp only [numF, if_true, rdM, rdC_of k h hb, ne_eq, not_true_eq_false, if_false, h]
theorem rdflag_of {has v : Bool} (set : Bool → HV) (h : flagE has v = 0) (hb : Begins s q (flagB has v)) : flagF (rdM s) has false set q = (0, set v, q + (flagB has v).length) := by
  cases has with
  | false =>
    cases v with
    | false => simp [flagF, flagB]
    | true => simp [flagE] at h
  | true =>
    simp only [flagB, if_true] at hb ⊢
    have e := rdC_of (c := .u 1) (v := b2i v) (s := s) (q := q) ⟨by omega, by omega⟩ (numC_bit v) (by simp only [cdBits]; rw [show (1 : Int).toNat = 1 from rfl, bit1]; exact hb)
    simp only [cdBits, show (1 : Int).toNat = 1 from rfl, bit1] at e
    simp only [flagF, if_true, rdM, e, ne_eq, not_true_eq_false, if_false, numC_bit]
    rw [isOne_b2i]
theorem readI_of {m : Bool} {l : List (Int × Int × Int)} (h : checkI m l = 0) (hb : Begins s q (listB m l)) : readI m s q = (l, 0, q + (listB m l).length) := by
  unfold checkI at h
  by_cases hl : 66 < l.length
  · rw [if_pos hl] at h; exact absurd h (by decide)
  · rw [if_neg hl] at h
    unfold readI
    rw [readF_of m s l 66 q h (by omega) hb]
    simp
theorem readI_back {m : Bool} {l : List (Int × Int × Int)} (hq : q ≤ 8 * s.size) (h : readI m s q = (l, 0, p)) : checkI m l = 0 ∧ Begins s q (listB m l) ∧ p = q + (listB m l).length := by
  unfold readI at h
  obtain ⟨l', e', p', hx⟩ : ∃ l' e' p', readF m s 66 q = (l', e', p') := ⟨_, _, _, rfl⟩
  rw [hx] at h
  simp only [Prod.mk.injEq] at h
  obtain ⟨rfl, rfl, h3⟩ := h
  rw [if_pos rfl] at h3
  subst h3
  obtain ⟨h1, h2, h3, h4⟩ := readF_back m s 66 l' q p' hq hx
  exact ⟨by unfold checkI; rw [if_neg (by omega)]; exact h1, h3, h4⟩
theorem rdlst_of {has m : Bool} {l : List (Int × Int × Int)} (set : List (Int × Int × Int) → HV) (h : lstE has m l = 0) (hb : Begins s q (lstB has m l)) : lstF (rdM s) has m [] set q = (0, set l, q + (lstB has m l).length) := by
  cases has with
  | false =>
    simp only [lstE, Bool.false_eq_true, if_false] at h
    have : l = [] := by
      by_cases e : l = []
      · exact e
      · rw [if_neg e] at h; exact absurd h (by decide)
    subst this
    simp [lstF, lstB]
  | true =>
    simp only [lstE, if_true] at h
    simp only [lstB, if_true] at hb ⊢
    simp only [lstF, if_true, rdM, readI_of h hb]
theorem rdnum_back {has : Bool} {c : Cd} {set : Int → HV} {y : HV} (k : cdOk c) (hq : q ≤ 8 * s.size) (h : numF (rdM s) has 0 set c q = (0, y, p)) : ∃ v, y = set v ∧ numE has v c = 0 ∧ Begins s q (numB has v c) ∧ p = q + (numB has v c).length := by
  cases has with
  | false =>
    simp [numF] at h
    exact ⟨0, h.1.symm, by simp [numE], ⟨by simp [numB]; exact hq, fun j hj => by simp [numB] at hj⟩, by simp [numB]; exact h.2.symm⟩
  | true =>
    obtain ⟨v, e, p', hx⟩ : ∃ v e p', rdC s q c = (v, e, p') := ⟨_, _, _, rfl⟩
    simp only [numF, if_true, rdM, hx, Prod.mk.injEq] at h
    obtain ⟨h1, rfl, rfl⟩ := h
    by_cases he : e = 0
    · subst he
      simp only [ne_eq, not_true_eq_false, if_false] at h1
      obtain ⟨h2, h3⟩ := rdC_back k hq hx h1
      exact ⟨v, rfl, by simp only [numE, if_true]; exact h1, by simp only [numB, if_true]; exact h2, by simp only [numB, if_true]; exact h3⟩
    · simp only [ne_eq, he, not_false_eq_true, if_true] at h1
theorem rdflag_back {has : Bool} {set : Bool → HV} {y : HV} (hq : q ≤ 8 * s.size) (h : flagF (rdM s) has false set q = (0, y, p)) : ∃ v, y = set v ∧ flagE has v = 0 ∧ Begins s q (flagB has v) ∧ p = q + (flagB has v).length := by
  cases has with
  | false =>
    simp [flagF] at h
    exact ⟨false, h.1.symm, by simp [flagE], ⟨by simp [flagB]; exact hq, fun j hj => by simp [flagB] at hj⟩, by simp [flagB]; exact h.2.symm⟩
  | true =>
    obtain ⟨v, e, p', hx⟩ : ∃ v e p', rdC s q (.u 1) = (v, e, p') := ⟨_, _, _, rfl⟩
    simp only [flagF, if_true, rdM, hx, Prod.mk.injEq] at h
    obtain ⟨h1, rfl, rfl⟩ := h
    by_cases he : e = 0
    · subst he
      simp only [ne_eq, not_true_eq_false, if_false] at h1
      obtain ⟨h2, h3⟩ := rdC_back (c := .u 1) ⟨by omega, by omega⟩ hq hx h1
      have hv := b2i_of v h1
      rw [hv] at h2 h3
      simp only [cdBits, show (1 : Int).toNat = 1 from rfl, bit1] at h2 h3
      exact ⟨isOne v, rfl, by simp [flagE], by simp only [flagB, if_true]; exact h2, by simp only [flagB, if_true]; exact h3⟩
    · simp only [ne_eq, he, not_false_eq_true, if_true] at h1
theorem rdlst_back {has m : Bool} {set : List (Int × Int × Int) → HV} {y : HV} (hq : q ≤ 8 * s.size) (h : lstF (rdM s) has m [] set q = (0, y, p)) : ∃ l, y = set l ∧ lstE has m l = 0 ∧ Begins s q (lstB has m l) ∧ p = q + (lstB has m l).length := by
  cases has with
  | false =>
    simp [lstF] at h
    exact ⟨[], h.1.symm, by simp [lstE], ⟨by simp [lstB]; exact hq, fun j hj => by simp [lstB] at hj⟩, by simp [lstB]; exact h.2.symm⟩
  | true =>
    obtain ⟨l, e, p', hx⟩ : ∃ l e p', readI m s q = (l, e, p') := ⟨_, _, _, rfl⟩
    simp only [lstF, if_true, rdM, hx, Prod.mk.injEq] at h
    obtain ⟨rfl, rfl, rfl⟩ := h
    obtain ⟨h1, h2, h3⟩ := readI_back hq hx
    exact ⟨l, rfl, by simp only [lstE, if_true]; exact h1, by simp only [lstB, if_true]; exact h2, by simp only [lstB, if_true]; exact h3⟩
end
end Go.Proofs.YtjjjfmnhdnajkaaGreatDoor

end
section
set_option maxRecDepth 20000
namespace Go.Proofs.YtjjjfmnhdnajkaaGreatDoor
set_option linter.unusedVariables false
set_option linter.unusedSimpArgs false

/-- A header without the fields from the j-th on. -/
def trunc (j : Nat) (x : HV) : HV :=
  ⟨x.fi, x.intra, x.whole, x.pps, if 0 < j then x.fr else 0, if 1 < j then x.idr else 0, if 2 < j then x.poc else 0, if 3 < j then x.over else false, if 4 < j then x.refs else 0, if 5 < j then x.listed else false,
    if 6 < j then x.mods else [], if 7 < j then x.f0 else false, if 7 < j then x.f1 else false, if 8 < j then x.ad else false, if 9 < j then x.marks else [], if 10 < j then x.ini else 0, if 11 < j then x.qp else 0, if 12 < j then x.fil else 0, if 13 < j then x.a else 0, if 14 < j then x.b else 0⟩
theorem trunc_all (x : HV) : trunc 15 x = x := rfl
theorem trunc_trunc (i j : Nat) (h : i ≤ j) (x : HV) : trunc i (trunc j x) = trunc i x := by
  simp only [trunc, HV.mk.injEq, true_and]
  refine ⟨?_, ?_, ?_, ?_, ?_, ?_, ?_, ?_, ?_, ?_, ?_, ?_, ?_, ?_, ?_, ?_⟩
  all_goals
    split
    · rw [if_pos (by omega)]
    · rfl
theorem unOk_cd {un : UN} (hs : okS un.s = true) (hp : okP un.p = true) : cdOk (.u un.s.fb) ∧ cdOk (.u un.s.pb) ∧ cdOk (qpC un) := by
  unfold okS at hs
  unfold okP at hp
  simp only [Bool.and_eq_true] at hs hp
  have h1 := inB_true hs.1.1.1.1.2
  have h2 := inB_true hs.1.1.1.2
  have h3 := inB_true hp.1.1.2
  exact ⟨⟨by omega, by omega⟩, ⟨by omega, by omega⟩, ⟨by omega, by omega, by omega⟩⟩
theorem cd1 : cdOk (.ue 0 65535) := ⟨by omega, by omega, by omega, by omega⟩
theorem cd2 : cdOk (.ue 1 32) := ⟨by omega, by omega, by omega, by omega⟩
theorem cd3 : cdOk (.ue 0 2) := ⟨by omega, by omega, by omega, by omega⟩
theorem cd4 : cdOk (.se (-6) 6) := ⟨by omega, by omega, by omega⟩
theorem cd5 : cdOk (.u 1) := ⟨by omega, by omega⟩
theorem flags_two {un : UN} {x : HV} (h : stepE un x 7 = 0) : flagE un.idr x.f0 = 0 ∧ flagE un.idr x.f1 = 0 := by
  unfold stepE at h
  by_cases e : flagE un.idr x.f0 = 0
  · rw [if_neg (fun k => k e)] at h; exact ⟨e, h⟩
  · rw [if_pos e] at h; exact absurd h e
section
variable {s : ByteArray} {un : UN} {x : HV}
theorem rd_step (hs : okS un.s = true) (hp : okP un.p = true) (j : Nat) (hj : j < 15) (q : Nat) (h : stepE un x j = 0) (hb : Begins s q (stepB un x j)) :
    stepH (rdM s) un j (trunc j x) q = (0, trunc (j + 1) x, q + (stepB un x j).length) := by
  obtain ⟨k1, k2, k3⟩ := unOk_cd hs hp
  match j, hj, h, hb with
  | 0, _, h, hb => exact rdnum_of (fun v => { trunc 0 x with fr := v }) k1 h hb
  | 1, _, h, hb => exact rdnum_of (fun v => { trunc 1 x with idr := v }) cd1 h hb
  | 2, _, h, hb => exact rdnum_of (fun v => { trunc 2 x with poc := v }) k2 h hb
  | 3, _, h, hb => exact rdflag_of (fun v => { trunc 3 x with over := v }) h hb
  | 4, _, h, hb => exact rdnum_of (fun v => { trunc 4 x with refs := v }) cd2 h hb
  | 5, _, h, hb => exact rdflag_of (fun v => { trunc 5 x with listed := v }) h hb
  | 6, _, h, hb => exact rdlst_of (fun v => { trunc 6 x with mods := v }) h hb
  | 7, _, h, hb =>
    obtain ⟨h1, h2⟩ := flags_two h
    have b1 := hb.left
    have b2 := hb.right
    rw [stepH_seven]
    have e0 := rdflag_of (fun v => { trunc 7 x with f0 := v }) h1 b1
    rw [show (trunc 7 x).f0 = false from rfl, e0]
    unfold thenF
    rw [if_neg (by simp)]
    have e := rdflag_of (fun v => { trunc 7 x with f0 := x.f0, f1 := v }) h2 b2
    rw [show stepB un x 7 = flagB un.idr x.f0 ++ flagB un.idr x.f1 from rfl, List.length_append, ← Nat.add_assoc]
    exact e
  | 8, _, h, hb => exact rdflag_of (fun v => { trunc 8 x with ad := v }) h hb
  | 9, _, h, hb => exact rdlst_of (fun v => { trunc 9 x with marks := v }) h hb
  | 10, _, h, hb => exact rdnum_of (fun v => { trunc 10 x with ini := v }) cd3 h hb
  | 11, _, h, hb => exact rdnum_of (fun v => { trunc 11 x with qp := v }) k3 h hb
  | 12, _, h, hb => exact rdnum_of (fun v => { trunc 12 x with fil := v }) cd3 h hb
  | 13, _, h, hb => exact rdnum_of (fun v => { trunc 13 x with a := v }) cd4 h hb
  | 14, _, h, hb => exact rdnum_of (fun v => { trunc 14 x with b := v }) cd4 h hb
theorem rd_run (hs : okS un.s = true) (hp : okP un.p = true) : ∀ (k j q : Nat), j + k = 15 → restE un x k j = 0 → Begins s q (restB un x k j) → runH (rdM s) un k j (trunc j x) q = (0, x, q + (restB un x k j).length) := by
  intro k
  induction k with
  | zero =>
    intro j q e _ _
    obtain rfl : j = 15 := by omega
    simp [runH, restB, trunc_all]
  | succ k ih =>
    intro j q e h hb
    obtain ⟨h1, h2⟩ := restE_cons h
    rw [restB] at hb ⊢
    rw [runH, rd_step hs hp j (by omega) q h1 hb.left]
    unfold thenF
    rw [if_neg (by simp)]
    simp only
    rw [ih (j + 1) _ (by omega) h2 hb.right, List.length_append, Nat.add_assoc]
/-- Whatever has no fields from the j-th on has none after the step but this one. -/
theorem rd_back (hs : okS un.s = true) (hp : okP un.p = true) (j : Nat) (hj : j < 15) (q p : Nat) (y : HV) (hq : q ≤ 8 * s.size) (h : stepH (rdM s) un j (trunc j x) q = (0, y, p)) :
    trunc j y = trunc j x ∧ trunc (j + 1) y = y ∧ stepE un y j = 0 ∧ Begins s q (stepB un y j) ∧ p = q + (stepB un y j).length := by
  obtain ⟨k1, k2, k3⟩ := unOk_cd hs hp
  match j, hj, h with
  | 0, _, h => obtain ⟨v, rfl, a, b, c⟩ := rdnum_back (set := fun v => { trunc 0 x with fr := v }) k1 hq h; exact ⟨rfl, rfl, a, b, c⟩
  | 1, _, h => obtain ⟨v, rfl, a, b, c⟩ := rdnum_back (set := fun v => { trunc 1 x with idr := v }) cd1 hq h; exact ⟨rfl, rfl, a, b, c⟩
  | 2, _, h => obtain ⟨v, rfl, a, b, c⟩ := rdnum_back (set := fun v => { trunc 2 x with poc := v }) k2 hq h; exact ⟨rfl, rfl, a, b, c⟩
  | 3, _, h => obtain ⟨v, rfl, a, b, c⟩ := rdflag_back (set := fun v => { trunc 3 x with over := v }) hq h; exact ⟨rfl, rfl, a, b, c⟩
  | 4, _, h => obtain ⟨v, rfl, a, b, c⟩ := rdnum_back (set := fun v => { trunc 4 x with refs := v }) cd2 hq h; exact ⟨rfl, rfl, a, b, c⟩
  | 5, _, h => obtain ⟨v, rfl, a, b, c⟩ := rdflag_back (set := fun v => { trunc 5 x with listed := v }) hq h; exact ⟨rfl, rfl, a, b, c⟩
  | 6, _, h => obtain ⟨v, rfl, a, b, c⟩ := rdlst_back (set := fun v => { trunc 6 x with mods := v }) hq h; exact ⟨rfl, rfl, a, b, c⟩
  | 7, _, h =>
    rw [stepH_seven, show (trunc 7 x).f0 = false from rfl] at h
    obtain ⟨e1, y1, p1, h1⟩ : ∃ e1 y1 p1, flagF (rdM s) un.idr false (fun v => { trunc 7 x with f0 := v }) q = (e1, y1, p1) := ⟨_, _, _, rfl⟩
    unfold thenF at h
    change (if (flagF (rdM s) un.idr false (fun v => { trunc 7 x with f0 := v }) q).1 ≠ 0 then flagF (rdM s) un.idr false (fun v => { trunc 7 x with f0 := v }) q
      else flagF (rdM s) un.idr (flagF (rdM s) un.idr false (fun v => { trunc 7 x with f0 := v }) q).2.1.f1 (fun v => { (flagF (rdM s) un.idr false (fun v => { trunc 7 x with f0 := v }) q).2.1 with f1 := v }) (flagF (rdM s) un.idr false (fun v => { trunc 7 x with f0 := v }) q).2.2) = _ at h
    rw [h1] at h
    by_cases he : e1 = 0
    · subst he
      rw [if_neg (by simp)] at h
      obtain ⟨v, rfl, a1, b1, c1⟩ := rdflag_back hq h1
      subst c1
      simp only at h
      obtain ⟨v2, rfl, a2, b2, c2⟩ := rdflag_back (set := fun v2 => { trunc 7 x with f0 := v, f1 := v2 }) (by have := b1.1; omega) h
      refine ⟨rfl, rfl, ?_, b1.join b2, ?_⟩
      · show (if flagE un.idr v ≠ 0 then flagE un.idr v else flagE un.idr v2) = 0
        rw [if_neg (fun k => k a1)]; exact a2
      · rw [c2]
        show _ = q + (flagB un.idr v ++ flagB un.idr v2).length
        rw [List.length_append, Nat.add_assoc]
    · rw [if_pos he] at h
      cases h
      exact absurd rfl he
  | 8, _, h => obtain ⟨v, rfl, a, b, c⟩ := rdflag_back (set := fun v => { trunc 8 x with ad := v }) hq h; exact ⟨rfl, rfl, a, b, c⟩
  | 9, _, h => obtain ⟨v, rfl, a, b, c⟩ := rdlst_back (set := fun v => { trunc 9 x with marks := v }) hq h; exact ⟨rfl, rfl, a, b, c⟩
  | 10, _, h => obtain ⟨v, rfl, a, b, c⟩ := rdnum_back (set := fun v => { trunc 10 x with ini := v }) cd3 hq h; exact ⟨rfl, rfl, a, b, c⟩
  | 11, _, h => obtain ⟨v, rfl, a, b, c⟩ := rdnum_back (set := fun v => { trunc 11 x with qp := v }) k3 hq h; exact ⟨rfl, rfl, a, b, c⟩
  | 12, _, h => obtain ⟨v, rfl, a, b, c⟩ := rdnum_back (set := fun v => { trunc 12 x with fil := v }) cd3 hq h; exact ⟨rfl, rfl, a, b, c⟩
  | 13, _, h => obtain ⟨v, rfl, a, b, c⟩ := rdnum_back (set := fun v => { trunc 13 x with a := v }) cd4 hq h; exact ⟨rfl, rfl, a, b, c⟩
  | 14, _, h => obtain ⟨v, rfl, a, b, c⟩ := rdnum_back (set := fun v => { trunc 14 x with b := v }) cd4 hq h; exact ⟨rfl, rfl, a, b, c⟩
end
/-- What a field says depends on it, and on those before it. -/
theorem stepE_trunc (un : UN) (x : HV) (j : Nat) (hj : j < 15) : stepE un (trunc (j + 1) x) j = stepE un x j ∧ stepB un (trunc (j + 1) x) j = stepB un x j := by
  match j, hj with
  | 0, _ => exact ⟨rfl, rfl⟩
  | 1, _ => exact ⟨rfl, rfl⟩
  | 2, _ => exact ⟨rfl, rfl⟩
  | 3, _ => exact ⟨rfl, rfl⟩
  | 4, _ => exact ⟨rfl, rfl⟩
  | 5, _ => exact ⟨rfl, rfl⟩
  | 6, _ => exact ⟨rfl, rfl⟩
  | 7, _ => exact ⟨rfl, rfl⟩
  | 8, _ => exact ⟨rfl, rfl⟩
  | 9, _ => exact ⟨rfl, rfl⟩
  | 10, _ => exact ⟨rfl, rfl⟩
  | 11, _ => exact ⟨rfl, rfl⟩
  | 12, _ => exact ⟨rfl, rfl⟩
  | 13, _ => exact ⟨rfl, rfl⟩
  | 14, _ => exact ⟨rfl, rfl⟩
theorem rd_only {s : ByteArray} {un : UN} (hs : okS un.s = true) (hp : okP un.p = true) : ∀ (k j q p : Nat) (y x : HV), j + k = 15 → q ≤ 8 * s.size → trunc j y = y → runH (rdM s) un k j y q = (0, x, p) →
    trunc j x = y ∧ restE un x k j = 0 ∧ Begins s q (restB un x k j) ∧ p = q + (restB un x k j).length := by
  intro k
  induction k with
  | zero =>
    intro j q p y x e hq hy h
    obtain rfl : j = 15 := by omega
    simp only [runH, Prod.mk.injEq, true_and] at h
    obtain ⟨rfl, rfl⟩ := h
    exact ⟨rfl, rfl, ⟨by simp [restB]; exact hq, fun j hj => by simp [restB] at hj⟩, by simp [restB]⟩
  | succ k ih =>
    intro j q p y x e hq hy h
    rw [runH] at h
    obtain ⟨e1, y1, q1, h1⟩ : ∃ e1 y1 q1, stepH (rdM s) un j y q = (e1, y1, q1) := ⟨_, _, _, rfl⟩
    rw [h1] at h
    unfold thenF at h
    by_cases he : e1 = 0
    · subst he
      rw [if_neg (by simp)] at h
      rw [← hy] at h1
      obtain ⟨a1, a2, a3, a4, a5⟩ := rd_back hs hp j (by omega) q q1 y1 hq h1
      obtain ⟨b1, b2, b3, b4⟩ := ih (j + 1) q1 p y1 x (by omega) (by rw [a5]; exact a4.1) a2 h
      have t := stepE_trunc un x j (by omega)
      rw [b1] at t
      refine ⟨?_, ?_, ?_, ?_⟩
      · rw [← trunc_trunc j (j + 1) (by omega) x, b1, a1, hy]
      · rw [restE, ← t.1, if_neg (fun k => k a3)]; exact b2
      · rw [restB, ← t.2]; exact a4.join (a5 ▸ b3)
      · rw [restB, ← t.2, List.length_append, b4, a5, Nat.add_assoc]
    · rw [if_pos he] at h
      cases h
      exact absurd rfl he
/-! ### Whole headers. -/
theorem un_ok {un : UN} (h : unE un = 0) : isU un = true ∧ okS un.s = true ∧ okP un.p = true ∧ un.p.sps = un.s.id := by
  unfold unE at h
  cases h1 : isU un <;> cases h2 : okS un.s <;> cases h3 : okP un.p <;> simp [h1, h2, h3] at h ⊢
  exact h
theorem checkH_ok {un : UN} {x : HV} (h : checkH un x = 0) : unE un = 0 ∧ beginE un x = 0 ∧ restE un x 15 0 = 0 := by
  unfold checkH at h
  by_cases h1 : unE un = 0
  · rw [if_neg (fun k => k h1)] at h
    by_cases h2 : beginE un x = 0
    · rw [if_neg (fun k => k h2)] at h; exact ⟨h1, h2, h⟩
    · rw [if_pos h2] at h; exact absurd h h2
  · rw [if_pos h1] at h; exact absurd h h1
theorem okS_size {s : SV} (h : okS s = true) : 1 ≤ s.wd ∧ s.wd ≤ 128 ∧ 1 ≤ s.ht ∧ s.ht ≤ 128 ∧ s.wd * s.ht ≤ 8160 ∧ 1 ≤ s.wd * s.ht := by
  unfold okS at h
  simp only [Bool.and_eq_true] at h
  have h1 := inB_true h.1.2
  have h2 := inB_true h.2
  unfold mostH at h2
  have h3 : s.ht ≤ 8160 / s.wd := by omega
  have h4 : s.ht * s.wd ≤ 8160 := (Int.le_ediv_iff_mul_le (by omega)).1 h3
  refine ⟨by omega, by omega, by omega, by omega, by rw [Int.mul_comm]; exact h4, ?_⟩
  have := Int.mul_le_mul h1.1 h2.1 (by omega) (by omega : 0 ≤ s.wd)
  omega
theorem begin_ok {un : UN} {x : HV} (hs : okS un.s = true) (hp : okP un.p = true) (h : beginE un x = 0) : (0 ≤ x.fi ∧ x.fi ≤ un.s.wd * un.s.ht - 1) ∧ x.fi ≤ 8159 ∧ numC (firstC un) x.fi = 0 ∧ (un.idr = true → x.intra = true) ∧ x.pps = un.p.id ∧ 0 ≤ x.pps ∧ x.pps ≤ 31 := by
  unfold beginE at h
  by_cases h1 : numC (firstC un) x.fi = 0
  · rw [if_neg (fun k => k h1)] at h
    by_cases h2 : un.idr = true ∧ x.intra = false
    · rw [if_pos h2] at h; exact absurd h (by decide)
    · rw [if_neg h2] at h
      by_cases h3 : x.pps = un.p.id
      · have h4 := okS_size hs
        have h5 := (okP_id hp).1
        have h6 : 0 ≤ x.fi ∧ x.fi ≤ un.s.wd * un.s.ht - 1 := by
          exact numC_iff.1 h1
        refine ⟨h6, by omega, h1, fun e => ?_, h3, by omega, by omega⟩
        cases hx : x.intra
        · exact absurd ⟨e, hx⟩ h2
        · rfl
      · rw [if_pos h3] at h; exact absurd h (by decide)
  · rw [if_pos h1] at h; exact absurd h (by decide)
theorem kindH_le (x : HV) : kindH x ≤ 7 := by unfold kindH; cases x.intra <;> cases x.whole <;> simp
theorem kindR_of (un : UN) (x : HV) (h : un.idr = true → x.intra = true) : kindR un.idr (kindH x) = (0, x.intra, x.whole) := by
  unfold kindR kindH
  revert h
  generalize x.intra = a
  generalize x.whole = b
  generalize un.idr = c
  intro h
  cases c
  · cases a <;> cases b <;> decide
  · obtain rfl : a = true := h rfl
    cases b <;> decide
theorem begins_b {s : ByteArray} {pos : Nat} {x : HV} {r : List Bool} (h1 : 0 ≤ x.fi ∧ x.fi ≤ 8159) (h2 : 0 ≤ x.pps ∧ x.pps ≤ 31) (h : Begins s pos (beginB x ++ r)) :
    ∃ q1 q2, rdUk s pos 0 = (x.fi.toNat, 0, q1) ∧ rdUk s q1 0 = (kindH x, 0, q2) ∧ rdUk s q2 0 = (x.pps.toNat, 0, pos + (beginB x).length) := by
  have hk := kindH_le x
  unfold beginB at h
  rw [List.append_assoc, List.append_assoc] at h
  refine ⟨_, _, read_ue (by omega) h.left, read_ue (by omega) h.right.left, ?_⟩
  rw [read_ue (by omega) h.right.right.left]
  unfold beginB
  simp only [List.length_append, Prod.mk.injEq, true_and]
  omega
theorem readB_of {s : ByteArray} {pos : Nat} {un : UN} {x : HV} {f : Int → Option SV} {g : Int → Option PV} {r : List Bool} (hs : okS un.s = true) (hp : okP un.p = true) (h : beginE un x = 0)
    (hg : getR f g x.pps = (un.p, un.s, 0)) (hb : Begins s pos (beginB x ++ r)) : readB s pos un.ref un.idr f g = (0, un, trunc 0 x, pos + (beginB x).length) := by
  obtain ⟨h1, h2, h3, h4, h5, h6, h7⟩ := begin_ok hs hp h
  obtain ⟨q1, q2, e1, e2, e3⟩ := begins_b ⟨h1.1, h2⟩ ⟨h6, h7⟩ hb
  have e4 := kindR_of un x h4
  have c1 : ((x.fi.toNat : Nat) : Int) = x.fi := by omega
  have c2 : ((x.pps.toNat : Nat) : Int) = x.pps := by omega
  unfold readB
  simp only [e1, e2, e3, e4, c1, c2, hg, ne_eq, not_true_eq_false, if_false, h3]
  rfl
/-- What was written is read. -/
theorem readH_of {s : ByteArray} {pos : Nat} {un : UN} {x : HV} {f : Int → Option SV} {g : Int → Option PV} (h : checkH un x = 0) (hg : getR f g x.pps = (un.p, un.s, 0)) (hb : Begins s pos (bitsH un x)) :
    readH s pos un.ref un.idr f g = (0, x, pos + (bitsH un x).length) := by
  obtain ⟨h1, h2, h3⟩ := checkH_ok h
  obtain ⟨u1, u2, u3, u4⟩ := un_ok h1
  have e1 := readB_of (s := s) (pos := pos) u2 u3 h2 hg hb
  have e2 := rd_run (s := s) u2 u3 15 0 _ (by omega) h3 hb.right
  have e3 : readT s (readB s pos un.ref un.idr f g) = (0, x, pos + (bitsH un x).length) := by
    rw [e1]
    unfold readT
    rw [if_neg (by simp)]
    simp only [e2]
    unfold thenF bitsH
    rw [if_neg (by simp), List.length_append, Nat.add_assoc]
  unfold readH
  rw [e3]
  have hu : un.ref ≤ 3 ∧ (0 < un.ref ∨ un.idr = false) := by
    unfold isU at u1
    cases hi : un.idr <;> simp [hi] at u1 ⊢ <;> omega
  rw [if_neg (fun k => k hu), if_neg (by simp)]
theorem kindR_ok {idr : Bool} {k : Nat} {a b : Bool} (h : kindR idr k = (0, a, b)) : (idr = true → a = true) ∧ k = (if a = true then 2 else 0) + (if b = true then 5 else 0) := by
  unfold kindR at h
  by_cases h1 : k = 0 ∨ k = 5
  · rw [if_pos h1] at h
    cases idr <;> simp at h
    obtain ⟨rfl, rfl⟩ := h
    rcases h1 with rfl | rfl <;> simp
  · rw [if_neg h1] at h
    by_cases h2 : k = 2 ∨ k = 7
    · rw [if_pos h2] at h
      simp at h
      obtain ⟨rfl, rfl⟩ := h
      rcases h2 with rfl | rfl <;> simp
    · rw [if_neg h2] at h
      simp at h
theorem readB_back {s : ByteArray} {pos q : Nat} {ref : Int} {idr : Bool} {un : UN} {y : HV} {f : Int → Option SV} {g : Int → Option PV} (hq : pos ≤ 8 * s.size) (h : readB s pos ref idr f g = (0, un, y, q)) :
    un.ref = ref ∧ un.idr = idr ∧ getR f g y.pps = (un.p, un.s, 0) ∧ trunc 0 y = y ∧ numC (firstC un) y.fi = 0 ∧ (idr = true → y.intra = true) ∧ Begins s pos (beginB y) ∧ q = pos + (beginB y).length := by
  unfold readB at h
  obtain ⟨v1, e1, q1, h1⟩ : ∃ v e q, rdUk s pos 0 = (v, e, q) := ⟨_, _, _, rfl⟩
  simp only [h1] at h
  by_cases c1 : ¬ (e1 = 0)
  · rw [if_pos c1] at h; simp at h; exact absurd h.1 c1
  replace c1 := Classical.not_not.1 c1
  subst c1
  rw [if_neg (by simp)] at h
  obtain ⟨b1, B1, z1⟩ := ue_back hq h1
  obtain ⟨v2, e2, q2, h2⟩ : ∃ v e q, rdUk s q1 0 = (v, e, q) := ⟨_, _, _, rfl⟩
  simp only [h2] at h
  by_cases c2 : ¬ (e2 = 0)
  · rw [if_pos c2] at h; simp at h; exact absurd h.1 c2
  replace c2 := Classical.not_not.1 c2
  subst c2
  rw [if_neg (by simp)] at h
  obtain ⟨b2, B2, z2⟩ := ue_back (by rw [z1]; exact B1.1) h2
  obtain ⟨k, a, b, hk⟩ : ∃ k a b, kindR idr v2 = (k, a, b) := ⟨_, _, _, rfl⟩
  simp only [hk] at h
  by_cases c3 : ¬ (k = 0)
  · rw [if_pos c3] at h; simp at h
  replace c3 := Classical.not_not.1 c3
  subst c3
  rw [if_neg (by simp)] at h
  obtain ⟨hk1, hk2⟩ := kindR_ok hk
  obtain ⟨v3, e3, q3, h3⟩ : ∃ v e q, rdUk s q2 0 = (v, e, q) := ⟨_, _, _, rfl⟩
  simp only [h3] at h
  by_cases c4 : ¬ (e3 = 0)
  · rw [if_pos c4] at h; simp at h; exact absurd h.1 c4
  replace c4 := Classical.not_not.1 c4
  subst c4
  rw [if_neg (by simp)] at h
  obtain ⟨b3, B3, z3⟩ := ue_back (by rw [z2]; exact B2.1) h3
  obtain ⟨p, s', e4, hg⟩ : ∃ p s' e, getR f g (v3 : Int) = (p, s', e) := ⟨_, _, _, rfl⟩
  simp only [hg] at h
  by_cases c5 : ¬ (e4 = 0)
  · rw [if_pos c5] at h; simp at h; exact absurd h.1 c5
  replace c5 := Classical.not_not.1 c5
  subst c5
  rw [if_neg (by simp)] at h
  simp only [Prod.mk.injEq] at h
  obtain ⟨hn, rfl, rfl, rfl⟩ := h
  have hB : Begins s pos (ueBits v1 ++ (ueBits v2 ++ ueBits v3)) := B1.join (z1 ▸ B2.join (z2 ▸ B3))
  have hbb : beginB { h0 with fi := (v1 : Int), intra := a, whole := b, pps := (v3 : Int) } = ueBits v1 ++ (ueBits v2 ++ ueBits v3) := by
    unfold beginB kindH
    simp only [Int.toNat_natCast]
    rw [← hk2]
  refine ⟨rfl, rfl, hg, rfl, hn, hk1, ?_, ?_⟩
  · rw [hbb]; exact hB
  · rw [hbb, z3, z2, z1]; simp only [List.length_append]; omega
theorem getR_ok {f : Int → Option SV} {g : Int → Option PV} (hf : AllS f) (hg : AllP g) {i : Int} {p : PV} {s : SV} (h : getR f g i = (p, s, 0)) : okP p = true ∧ okS s = true ∧ p.id = i ∧ p.sps = s.id := by
  unfold getR at h
  by_cases hi : i < 0 ∨ 32 ≤ i
  · rw [if_pos hi] at h; simp at h
  · rw [if_neg hi] at h
    cases h1 : g i with
    | none => simp [h1] at h
    | some p' =>
      simp only [h1] at h
      cases h2 : f p'.sps with
      | none => simp [h2] at h
      | some s' =>
        simp only [h2, Prod.mk.injEq, and_true] at h
        obtain ⟨rfl, rfl⟩ := h
        have a := hg i p' h1
        have b := hf _ s' h2
        exact ⟨a.2, b.2, a.1, b.1.symm⟩
/-- What is read is valid, and would be written with the same bits. -/
theorem readH_back {s : ByteArray} {pos q : Nat} {ref : Int} {idr : Bool} {x : HV} {f : Int → Option SV} {g : Int → Option PV} (hf : AllS f) (hg : AllP g) (hq : pos ≤ 8 * s.size) (h : readH s pos ref idr f g = (0, x, q)) :
    ∃ un : UN, un.ref = ref ∧ un.idr = idr ∧ getR f g x.pps = (un.p, un.s, 0) ∧ checkH un x = 0 ∧ Begins s pos (bitsH un x) ∧ q = pos + (bitsH un x).length := by
  unfold readH at h
  by_cases hu : ¬ (ref ≤ 3 ∧ (0 < ref ∨ idr = false))
  · rw [if_pos hu] at h; simp at h
  rw [if_neg hu] at h
  replace hu := Classical.not_not.1 hu
  by_cases he : ¬ ((readT s (readB s pos ref idr f g)).1 = 0)
  · rw [if_pos he] at h; simp at h; exact absurd h.1 he
  rw [if_neg he] at h
  obtain ⟨e1, un, y, q1, h1⟩ : ∃ e un y q, readB s pos ref idr f g = (e, un, y, q) := ⟨_, _, _, _, rfl⟩
  rw [h1] at h
  unfold readT at h
  by_cases c1 : ¬ (e1 = 0)
  · rw [if_pos c1] at h; simp at h; exact absurd h.1 c1
  replace c1 := Classical.not_not.1 c1
  subst c1
  rw [if_neg (by simp)] at h
  simp only at h
  obtain ⟨u1, u2, g1, t1, n1, i1, B1, z1⟩ := readB_back hq h1
  obtain ⟨o1, o2, o3, o4⟩ := getR_ok hf hg g1
  obtain ⟨e2, x', q2, h2⟩ : ∃ e x' q, runH (rdM s) un 15 0 y q1 = (e, x', q) := ⟨_, _, _, rfl⟩
  rw [h2] at h
  unfold thenF at h
  by_cases c2 : ¬ (e2 = 0)
  · rw [if_pos c2] at h; simp at h; exact absurd h.1 c2
  replace c2 := Classical.not_not.1 c2
  subst c2
  rw [if_neg (by simp)] at h
  simp only [Prod.mk.injEq, true_and] at h
  obtain ⟨rfl, rfl⟩ := h
  obtain ⟨r1, r2, r3, r4⟩ := rd_only o2 o1 15 0 q1 q2 y x' (by omega) (by rw [z1]; exact B1.1) t1 h2
  have f1 : y.fi = x'.fi := by rw [← r1]; rfl
  have f2 : y.intra = x'.intra := by rw [← r1]; rfl
  have f3 : y.pps = x'.pps := by rw [← r1]; rfl
  have f4 : beginB y = beginB x' := by rw [← r1]; rfl
  have hun : unE un = 0 := by
    have : isU un = true := by
      unfold isU
      rw [u1, u2]
      cases idr <;> simp at hu ⊢ <;> omega
    unfold unE
    simp [this, o2, o1, o4]
  have hbe : beginE un x' = 0 := by
    unfold beginE
    rw [← f1, ← f2, ← f3, if_neg (fun k => k n1), if_neg (fun k => by have := i1 (u2 ▸ k.1); rw [this] at k; exact absurd k.2 (by decide)), if_neg (fun k => k o3.symm)]
  refine ⟨un, u1, u2, f3 ▸ g1, ?_, ?_, ?_⟩
  · unfold checkH
    rw [if_neg (fun k => k hun), if_neg (fun k => k hbe)]; exact r2
  · unfold bitsH
    rw [← f4]
    exact B1.join (z1 ▸ r3)
  · unfold bitsH
    rw [List.length_append, ← f4, r4, z1, Nat.add_assoc]
/-- No bits of a header are the beginning of those of another one. -/
theorem begins_of {L M : List Bool} (h : ∃ r, M = L ++ r) : Begins (pack M) 0 L := by
  obtain ⟨r, rfl⟩ := h
  exact begins_pack L [] r
theorem apart_h {un : UN} {x y : HV} (hx : checkH un x = 0) (hy : checkH un y = 0) (h : ∃ r, bitsH un y = bitsH un x ++ r) : x = y := by
  obtain ⟨u1, u2, u3, u4⟩ := un_ok (checkH_ok hx).1
  have px := (begin_ok u2 u3 (checkH_ok hx).2.1).2.2.2.2
  have py := (begin_ok u2 u3 (checkH_ok hy).2.1).2.2.2.2
  have pid := (okP_id u3).1
  have hg : ∀ i, i = un.p.id → getR (upd (fun _ => none) un.s.id un.s) (upd (fun _ => none) un.p.id un.p) i = (un.p, un.s, 0) := by
    rintro i rfl
    unfold getR
    rw [if_neg (by omega), upd_same]
    simp only [u4, upd_same]
  have e1 := readH_of (s := pack (bitsH un y)) (pos := 0) hx (hg _ px.1) (begins_of h)
  have e2 := readH_of (s := pack (bitsH un y)) (pos := 0) hy (hg _ py.1) (begins_of ⟨[], by simp⟩)
  rw [e1] at e2
  exact (Prod.mk.injEq .. ▸ (Prod.mk.injEq .. ▸ e2).2).1
theorem bits_pos {un : UN} (x : HV) : 0 < (bitsH un x).length := by
  unfold bitsH beginB
  have := length_ueBits x.fi.toNat
  have h : 1 ≤ 2 * Lib.bitLen (x.fi.toNat + 1) - 1 := by
    have hb : Lib.bitLen (x.fi.toNat + 1) = 1 + Lib.bitLenAux 63 ((x.fi.toNat + 1) / 2) := by
      unfold Lib.bitLen
      rw [Lib.bitLenAux, if_neg (by omega)]
    omega
  simp only [List.length_append]
  omega
end Go.Proofs.YtjjjfmnhdnajkaaGreatDoor

end
section
set_option maxRecDepth 20000
namespace Go.Proofs.YtjjjfmnhdnajkaaGreatDoor
open Go.RowKit
set_option linter.unusedVariables false

/-- A scan at block D over the reader c, with the error E. -/
structure Sc (w : World) (D c : Nat) (E : Int) : Prop where
  r : w.cell? ⟨D, 0, none⟩ = some (.pointer (some ⟨c, 0, none⟩))
  e : w.cell? ⟨D, 1, none⟩ = some (.int .i64 E)
  f : w.frozen? ⟨D, 1, none⟩ = false
theorem Sc.lt {w : World} {D c : Nat} {E : Int} (h : Sc w D c E) : D < w.heap.size := World.block_lt_of_cell? _ _ h.r
theorem Sc.only {S : List Nat} {w w' : World} {D c : Nat} {E : Int} (h : Sc w D c E) (k : Only S w w') (hb : D ∉ S) : Sc w' D c E := ⟨k.cell h.r hb, k.cell h.e hb, (k.frozen h.lt hb).trans h.f⟩
theorem Sc.drewN {w : World} {D c : Nat} {E : Int} (h : Sc w D c E) (n : Nat) : Sc (w.drewN n) D c E := ⟨h.r, h.e, h.f⟩
theorem Sc.set {w : World} {D c : Nat} {E : Int} (h : Sc w D c E) (F : Int) : Sc (w.setCell ⟨D, 1, none⟩ (.int .i64 F)) D c F :=
  ⟨by rw [World.cell?_setCell_other _ _ _ _ (by simp)]; exact h.r, World.cell?_setCell_same _ _ _ h.e, by simp [h.f]⟩
/-- What Ue of a scan answers, and leaves. -/
def ueS (s : ByteArray) (E : Int) (q : Nat) : Int × Int × Nat := if E ≠ 0 then (0, E, q) else ((rdUk s q 0).1, (rdUk s q 0).2.1, (rdUk s q 0).2.2)
set_option maxHeartbeats 1000000 in
theorem sue_any (D c : Nat) (s : ByteArray) (q : Nat) (E : Int) (w : World) (h : Sc w D c E) (hr : Rd w c s q) (hne : D ≠ c) :
    Calls Tryz.prog 84 #[.pointer (some ⟨D, 0, none⟩)] w fun e w' => e = .returned (.int .i64 (ueS s E q).1) ∧ Sc w' D c (ueS s E q).2.1 ∧ Rd w' c s (ueS s E q).2.2 ∧ Only [c, D] w w' := by
  obtain ⟨hr0, he0, hf0⟩ := h
  have H := hid (Sc.mk hr0 he0 hf0)
  have R := hid hr
  by_cases hE : E = 0
  · subst hE
    rw [show ueS s 0 q = (((rdUk s q 0).1 : Int), (rdUk s q 0).2.1, (rdUk s q 0).2.2) from by simp [ueS]]
    have U := hid (rue_any c s q w hr)
    have hlt := rdUk_lt s q 0
    have p32 : (2 : Nat) ^ (32 + 0) = 4294967296 := by decide
    rw [p32] at hlt
    generalize rdUk s q 0 = r at *
    obtain ⟨v, e, p⟩ := r
    dsimp only at *
    have v1 : (v : Int) ≤ 4294967295 := by omega
    have v0 : (0 : Int) ≤ (v : Int) := by omega
    clear hlt p32 hr
    go_enter Tryz.func84, Tryz.ntmps84
    go_wp2_with fail
    refine U.out.mono ?_
    rintro e1 w1 ⟨rfl, hR1, hO1⟩
    have S1 := hid (H.out.only hO1 (by simpa using hne))
    have R1 := hid hR1
    have O1 := hid hO1
    have e0 := S1.out.e
    have f0 := S1.out.f
    clear hr0 he0 hf0 hR1 hO1
    go_wp2_with fail
    go_ret
    exact ⟨rfl, S1.out.set e, R1.out.only ((Only.refl [D] _).setCell (.inl (by simp)) _) (by simpa using fun h => hne h.symm), (O1.out.mono (fun k _ h => by simp at h; simp [h])).trans (((Only.refl [D] _).setCell (.inl (by simp)) _).mono (fun k _ h => by simp at h; simp [h]))⟩
  · rw [show ueS s E q = (0, E, q) from by simp [ueS, hE]]
    clear hr
    go_enter Tryz.func84, Tryz.ntmps84
    go_wp2_with fail
    go_ret
    exact ⟨rfl, H.out, R.out, Only.refl _ _⟩
/-- What Kind leaves. -/
def kindS (E : Int) (is : Bool) : Int := if E = 0 ∧ is = false then 9 else E
set_option maxHeartbeats 1000000 in
theorem skind_any (D c : Nat) (E : Int) (is : Bool) (w : World) (h : Sc w D c E) :
    Calls Tryz.prog 85 #[.pointer (some ⟨D, 0, none⟩), .bool is] w fun e w' => (∃ v, e = .returned v) ∧ Sc w' D c (kindS E is) ∧ Only [D] w w' := by
  obtain ⟨hr0, he0, hf0⟩ := h
  have H := hid (Sc.mk hr0 he0 hf0)
  by_cases hE : E = 0
  · subst hE
    cases is with
    | true =>
      rw [show kindS 0 true = 0 from by simp [kindS]]
      go_enter Tryz.func85, Tryz.ntmps85
      go_wp2_with fail
      exact bodyPost_end (results_none rfl _ _ _) rfl ⟨⟨_, rfl⟩, H.out, Only.refl _ _⟩
    | false =>
      rw [show kindS 0 false = 9 from by simp [kindS]]
      go_enter Tryz.func85, Tryz.ntmps85
      go_wp2_with fail
      exact bodyPost_end (results_none rfl _ _ _) rfl ⟨⟨_, rfl⟩, H.out.set 9, (Only.refl [D] _).setCell (.inl (by simp)) _⟩
  · rw [show kindS E is = E from by simp [kindS, hE]]
    go_enter Tryz.func85, Tryz.ntmps85
    go_wp2_with fail
    exact bodyPost_end (results_none rfl _ _ _) rfl ⟨⟨_, rfl⟩, H.out, Only.refl _ _⟩
end Go.Proofs.YtjjjfmnhdnajkaaGreatDoor

end

/- Frames: what a call may have changed; and facts about blocks that hold a few cells. Plain: nothing of the translation stands here. -/
/- Parameter sets as plain values; when they are valid; what is known by its number. Plain, but for the values' spelling. -/
/- Plain facts on the bits of a string. -/
/- Plain facts on lists of bits, and on the bytes that hold them. -/
/- What Put of a writer reckons: plain facts on numbers. -/
/- Maps from numbers to structs by value: what a map's block holds, look-ups, stores, copies. -/
import Derived.WalkKit
import Derived.WalkSpells
import Derived.WalkLawsBesides
import Derived.Laws.BitsAllLaws
import Derived.Laws.Bits64
import Derived.Test.YtjjjfmnhdnajkaaGreatDoorRows
import Derived.Maps.OwnSet
import Derived.MapKept
section
set_option maxRecDepth 20000
namespace Go.Proofs.YtjjjfmnhdnajkaaGreatDoor
open Go.RowKit

/-- The world w' is w, but for the blocks of S and for new ones. -/
structure Only (S : List Nat) (w w' : World) : Prop where
  os : w'.os = w.os
  tape : w'.tape = w.tape
  output : w'.output = w.output
  size : w.heap.size ≤ w'.heap.size
  block : ∀ k, k < w.heap.size → k ∉ S → w'.heap[k]? = w.heap[k]?

theorem Only.refl (S : List Nat) (w : World) : Only S w w := ⟨rfl, rfl, rfl, Nat.le_refl _, fun _ _ _ => rfl⟩
theorem Only.trans {S : List Nat} {a b c : World} (h : Only S a b) (k : Only S b c) : Only S a c :=
  ⟨k.os.trans h.os, k.tape.trans h.tape, k.output.trans h.output, Nat.le_trans h.size k.size, fun i hi hs => (k.block i (Nat.lt_of_lt_of_le hi h.size) hs).trans (h.block i hi hs)⟩
/-- The second step may change what the first has made. -/
theorem Only.trans2 {S T : List Nat} {a b c : World} (h : Only S a b) (k : Only T b c) (ht : ∀ x, x ∈ T → x ∈ S ∨ a.heap.size ≤ x) : Only S a c :=
  ⟨k.os.trans h.os, k.tape.trans h.tape, k.output.trans h.output, Nat.le_trans h.size k.size, fun i hi hs => (k.block i (Nat.lt_of_lt_of_le hi h.size) (fun e => by rcases ht i e with h | h; exact hs h; omega)).trans (h.block i hi hs)⟩
theorem Only.mono {S T : List Nat} {w w' : World} (h : Only S w w') (hst : ∀ k, k < w.heap.size → k ∈ S → k ∈ T) : Only T w w' :=
  ⟨h.os, h.tape, h.output, h.size, fun k hk hn => h.block k hk (fun hs => hn (hst k hk hs))⟩
theorem Only.drew {S : List Nat} {a w : World} (h : Only S a w) : Only S a w.drew := ⟨h.os, h.tape, h.output, h.size, h.block⟩
theorem Only.drewN {S : List Nat} {a w : World} (h : Only S a w) (n : Nat) : Only S a (w.drewN n) := ⟨h.os, h.tape, h.output, h.size, h.block⟩
theorem Only.alloc {S : List Nat} {a w : World} (h : Only S a w) (o : Obj) : Only S a (w.alloc o) :=
  h.trans ⟨rfl, rfl, rfl, by simp, fun k hk _ => Below.heap_alloc _ _ _ (by omega)⟩
theorem Only.setCell {S : List Nat} {a w : World} (h : Only S a w) {p : Addr} (hp : p.block ∈ S ∨ a.heap.size ≤ p.block) (u : Value) : Only S a (w.setCell p u) :=
  ⟨h.os, h.tape, h.output, by have := h.size; simp; omega, fun k hk hs => by
    rw [Below.heap_setCell _ _ _ _ (fun e => by rcases hp with hp | hp; exact hs (e ▸ hp); omega)]; exact h.block k hk hs⟩
theorem Only.cell {S : List Nat} {w w' : World} (h : Only S w w') {p : Addr} {v : Value} (hc : w.cell? p = some v) (hp : p.block ∉ S) : w'.cell? p = some v := by
  rw [← hc]; exact World.cell?_of_block (w := w) (h.block p.block (World.block_lt_of_cell? _ _ hc) hp)
theorem Only.frozen {S : List Nat} {w w' : World} (h : Only S w w') {p : Addr} (hl : p.block < w.heap.size) (hp : p.block ∉ S) : w'.frozen? p = w.frozen? p :=
  World.frozen?_of_block (w := w) (h.block p.block hl hp)
theorem Only.below {S : List Nat} {w w' : World} {B : Nat} (h : Only S w w') (hB : B ≤ w.heap.size) (hs : ∀ k, k ∈ S → B ≤ k) : Below B w w' :=
  ⟨h.os, h.tape, h.output, h.size, fun k hk => h.block k (by omega) (fun e => by have := hs k e; omega)⟩
/-- What is only new blocks and those of S, on top of a world that is Below B. -/
theorem Below.only {S : List Nat} {B : Nat} {a w w' : World} (h : Below B a w) (k : Only S w w') (hB : B ≤ w.heap.size) (hs : ∀ k, k ∈ S → B ≤ k) : Below B a w' :=
  h.trans (k.below hB hs)

/-- A reader (of the program, or of the reference) at block b: a string, and how many of its bits were read. -/
structure Rd (w : World) (b : Nat) (s : ByteArray) (pos : Nat) : Prop where
  hs : w.cell? ⟨b, 0, none⟩ = some (.string s)
  hp : w.cell? ⟨b, 1, none⟩ = some (.int .i64 pos)
  hf : w.frozen? ⟨b, 1, none⟩ = false
  le : pos ≤ 8 * s.size
  sz : s.size ≤ 140737488351232

theorem Rd.lt {w : World} {b : Nat} {s : ByteArray} {pos : Nat} (h : Rd w b s pos) : b < w.heap.size := World.block_lt_of_cell? _ _ h.hs
theorem Rd.only {S : List Nat} {w w' : World} {b : Nat} {s : ByteArray} {pos : Nat} (h : Rd w b s pos) (k : Only S w w') (hb : b ∉ S) : Rd w' b s pos :=
  ⟨k.cell h.hs hb, k.cell h.hp hb, (k.frozen h.lt hb).trans h.hf, h.le, h.sz⟩
theorem Rd.drew {w : World} {b : Nat} {s : ByteArray} {pos : Nat} (h : Rd w b s pos) : Rd w.drew b s pos := ⟨h.hs, h.hp, h.hf, h.le, h.sz⟩
theorem Rd.drewN {w : World} {b : Nat} {s : ByteArray} {pos : Nat} (h : Rd w b s pos) (n : Nat) : Rd (w.drewN n) b s pos := ⟨h.hs, h.hp, h.hf, h.le, h.sz⟩
theorem Rd.set {w : World} {b : Nat} {s : ByteArray} {pos : Nat} (h : Rd w b s pos) (q : Nat) (hq : q ≤ 8 * s.size) : Rd (w.setCell ⟨b, 1, none⟩ (.int .i64 q)) b s q :=
  ⟨by rw [World.cell?_setCell_other _ _ _ _ (by simp)]; exact h.hs, World.cell?_setCell_same _ _ _ h.hp, by simp [h.hf], hq, h.sz⟩

/-- The bit i of a string, and the number of n bits from the bit pos on. -/
def bitAt (s : ByteArray) (i : Nat) : Bool := ((s.data.getD (i / 8) 0).toNat).testBit (7 - i % 8)
def valOf (s : ByteArray) (pos : Nat) : Nat → Nat
  | 0 => 0
  | n + 1 => 2 * valOf s pos n + (bitAt s (pos + n)).toNat

theorem ret_int {k : IntKind} {a b : Int} (h : a = b) : Ending.returned (.int k a) = .returned (.int k b) := by rw [h]
theorem hid {p : Prop} (h : p) : Hid p := h

/-- What U answers: the number, the error, the place behind it. -/
def rdU (s : ByteArray) (pos : Nat) (n : Int) : Nat × Int × Nat :=
  if n < 0 ∨ 64 < n then (0, 3, pos) else if 8 * s.size < pos + n.toNat then (0, 5, pos) else (valOf s pos n.toNat, 0, pos + n.toNat)

theorem valOf_lt (s : ByteArray) (pos n : Nat) : valOf s pos n < 2 ^ n := by
  induction n with
  | zero => simp [valOf]
  | succ n ih => simp only [valOf, Nat.pow_succ]; have : (bitAt s (pos + n)).toNat ≤ 1 := Bool.toNat_le _; omega
end Go.Proofs.YtjjjfmnhdnajkaaGreatDoor

end
section
set_option maxRecDepth 20000
namespace Go.Proofs.YtjjjfmnhdnajkaaGreatDoor
open Go.RowKit
set_option linter.unusedVariables false

/-- A sequence parameter set. -/
structure SV where
  pr : Int
  fl : Int
  lv : Int
  id : Int
  fb : Int
  pb : Int
  rf : Int
  wd : Int
  ht : Int
/-- A picture parameter set. -/
structure PV where
  id : Int
  sps : Int
  cab : Bool
  rf : Int
  r1 : Int
  qp : Int
  qs : Int
  ch : Int
  db : Bool
  nt : Bool
theorem SV.eq_iff (a b : SV) : a = b ↔ a.pr = b.pr ∧ a.fl = b.fl ∧ a.lv = b.lv ∧ a.id = b.id ∧ a.fb = b.fb ∧ a.pb = b.pb ∧ a.rf = b.rf ∧ a.wd = b.wd ∧ a.ht = b.ht := by
  cases a; cases b; simp
theorem PV.eq_iff (a b : PV) : a = b ↔ a.id = b.id ∧ a.sps = b.sps ∧ a.cab = b.cab ∧ a.rf = b.rf ∧ a.r1 = b.r1 ∧ a.qp = b.qp ∧ a.qs = b.qs ∧ a.ch = b.ch ∧ a.db = b.db ∧ a.nt = b.nt := by
  cases a; cases b; simp
instance instDecSV : DecidableEq SV := fun a b => decidable_of_iff _ (SV.eq_iff a b).symm
instance instDecPV : DecidableEq PV := fun a b => decidable_of_iff _ (PV.eq_iff a b).symm
def s0 : SV := ⟨0, 0, 0, 0, 0, 0, 0, 0, 0⟩
def p0 : PV := ⟨0, 0, false, 0, 0, 0, 0, 0, false, false⟩
/-- Their cells, and what they are as values. -/
abbrev sC (x : SV) : Array Value := #[.int .u8 x.pr, .int .u8 x.fl, .int .u8 x.lv, .int .i64 x.id, .int .i64 x.fb, .int .i64 x.pb, .int .i64 x.rf, .int .i64 x.wd, .int .i64 x.ht]
abbrev pC (x : PV) : Array Value := #[.int .i64 x.id, .int .i64 x.sps, .bool x.cab, .int .i64 x.rf, .int .i64 x.r1, .int .i64 x.qp, .int .i64 x.qs, .int .i64 x.ch, .bool x.db, .bool x.nt]
abbrev sV (x : SV) : Value := .agg #[.int .u8 x.pr, .int .u8 x.fl, .int .u8 x.lv, .int .i64 x.id, .int .i64 x.fb, .int .i64 x.pb, .int .i64 x.rf, .int .i64 x.wd, .int .i64 x.ht]
abbrev pV (x : PV) : Value := .agg #[.int .i64 x.id, .int .i64 x.sps, .bool x.cab, .int .i64 x.rf, .int .i64 x.r1, .int .i64 x.qp, .int .i64 x.qs, .int .i64 x.ch, .bool x.db, .bool x.nt]
theorem sV_inj {x y : SV} (h : sV x = sV y) : x = y := by
  rw [SV.eq_iff]; simp only [sV, Value.agg.injEq, Array.mk.injEq, List.cons.injEq, Value.int.injEq, true_and, and_true] at h; exact h
theorem pV_inj {x y : PV} (h : pV x = pV y) : x = y := by
  rw [PV.eq_iff]; simp only [pV, Value.agg.injEq, Array.mk.injEq, List.cons.injEq, Value.int.injEq, Value.bool.injEq, true_and, and_true] at h; exact h

/-- A number is from lo to hi. -/
def inB (v lo hi : Int) : Bool := decide (lo ≤ v ∧ v ≤ hi)
theorem inB_true {v lo hi : Int} (h : inB v lo hi = true) : lo ≤ v ∧ v ≤ hi := by simpa [inB] using h
theorem inB_mk {v lo hi : Int} (h : lo ≤ v) (k : v ≤ hi) : inB v lo hi = true := by simp [inB, h, k]
theorem inB_false {v lo hi : Int} (h : inB v lo hi = false) : v < lo ∨ hi < v := by simp [inB] at h; omega
/-- The greatest height of a picture of this width. -/
def mostH (wd : Int) : Int := min 128 (8160 / wd)
/-- A parameter set is valid. -/
def okS (x : SV) : Bool := inB x.id 0 31 && inB x.fb 4 16 && inB x.pb 4 16 && inB x.rf 0 16 && inB x.wd 1 128 && inB x.ht 1 (mostH x.wd)
def okP (x : PV) : Bool := inB x.id 0 31 && inB x.sps 0 31 && inB x.rf 1 32 && inB x.r1 1 32 && inB x.qp (-26) 25 && inB x.qs (-26) 25 && inB x.ch (-12) 12
def chS (x : SV) : Int := if okS x then 0 else 3
def chP (x : PV) : Int := if okP x then 0 else 3
theorem okS_cases (x : SV) : (inB x.id 0 31 = true ∧ inB x.fb 4 16 = true ∧ inB x.pb 4 16 = true ∧ inB x.rf 0 16 = true ∧ inB x.wd 1 128 = true ∧ inB x.ht 1 (mostH x.wd) = true ∧ okS x = true) ∨
    (inB x.id 0 31 = true ∧ inB x.fb 4 16 = true ∧ inB x.pb 4 16 = true ∧ inB x.rf 0 16 = true ∧ inB x.wd 1 128 = true ∧ inB x.ht 1 (mostH x.wd) = false ∧ okS x = false) ∨
    (inB x.id 0 31 = true ∧ inB x.fb 4 16 = true ∧ inB x.pb 4 16 = true ∧ inB x.rf 0 16 = true ∧ inB x.wd 1 128 = false ∧ okS x = false) ∨
    (inB x.id 0 31 = true ∧ inB x.fb 4 16 = true ∧ inB x.pb 4 16 = true ∧ inB x.rf 0 16 = false ∧ okS x = false) ∨
    (inB x.id 0 31 = true ∧ inB x.fb 4 16 = true ∧ inB x.pb 4 16 = false ∧ okS x = false) ∨
    (inB x.id 0 31 = true ∧ inB x.fb 4 16 = false ∧ okS x = false) ∨ (inB x.id 0 31 = false ∧ okS x = false) := by
  unfold okS
  cases inB x.id 0 31 <;> cases inB x.fb 4 16 <;> cases inB x.pb 4 16 <;> cases inB x.rf 0 16 <;> cases inB x.wd 1 128 <;> cases inB x.ht 1 (mostH x.wd) <;> simp
theorem okP_cases (x : PV) : (inB x.id 0 31 = true ∧ inB x.sps 0 31 = true ∧ inB x.rf 1 32 = true ∧ inB x.r1 1 32 = true ∧ inB x.qp (-26) 25 = true ∧ inB x.qs (-26) 25 = true ∧ inB x.ch (-12) 12 = true ∧ okP x = true) ∨
    (inB x.id 0 31 = true ∧ inB x.sps 0 31 = true ∧ inB x.rf 1 32 = true ∧ inB x.r1 1 32 = true ∧ inB x.qp (-26) 25 = true ∧ inB x.qs (-26) 25 = true ∧ inB x.ch (-12) 12 = false ∧ okP x = false) ∨
    (inB x.id 0 31 = true ∧ inB x.sps 0 31 = true ∧ inB x.rf 1 32 = true ∧ inB x.r1 1 32 = true ∧ inB x.qp (-26) 25 = true ∧ inB x.qs (-26) 25 = false ∧ okP x = false) ∨
    (inB x.id 0 31 = true ∧ inB x.sps 0 31 = true ∧ inB x.rf 1 32 = true ∧ inB x.r1 1 32 = true ∧ inB x.qp (-26) 25 = false ∧ okP x = false) ∨
    (inB x.id 0 31 = true ∧ inB x.sps 0 31 = true ∧ inB x.rf 1 32 = true ∧ inB x.r1 1 32 = false ∧ okP x = false) ∨
    (inB x.id 0 31 = true ∧ inB x.sps 0 31 = true ∧ inB x.rf 1 32 = false ∧ okP x = false) ∨
    (inB x.id 0 31 = true ∧ inB x.sps 0 31 = false ∧ okP x = false) ∨ (inB x.id 0 31 = false ∧ okP x = false) := by
  unfold okP
  cases inB x.id 0 31 <;> cases inB x.sps 0 31 <;> cases inB x.rf 1 32 <;> cases inB x.r1 1 32 <;> cases inB x.qp (-26) 25 <;> cases inB x.qs (-26) 25 <;> cases inB x.ch (-12) 12 <;> simp
theorem okS_id {x : SV} (h : okS x = true) : 0 ≤ x.id ∧ x.id ≤ 31 := by
  unfold okS at h; simp only [Bool.and_eq_true] at h; exact inB_true h.1.1.1.1.1
theorem okP_id {x : PV} (h : okP x = true) : (0 ≤ x.id ∧ x.id ≤ 31) ∧ (0 ≤ x.sps ∧ x.sps ≤ 31) := by
  unfold okP at h; simp only [Bool.and_eq_true] at h; exact ⟨inB_true h.1.1.1.1.1.1, inB_true h.1.1.1.1.1.2⟩

/-- What is known by its number: nothing, or the latest one. -/
def upd {α : Type} (f : Int → Option α) (k : Int) (x : α) : Int → Option α := fun i => if i = k then some x else f i
theorem upd_same {α : Type} (f : Int → Option α) (k : Int) (x : α) : upd f k x k = some x := by simp [upd]
theorem upd_other {α : Type} (f : Int → Option α) {k i : Int} (x : α) (h : i ≠ k) : upd f k x i = f i := by simp [upd, h]
theorem upd_swap {α : Type} (f : Int → Option α) {k i : Int} (x y : α) (h : i ≠ k) : upd (upd f k x) i y = upd (upd f i y) k x := by
  funext j
  by_cases h1 : j = i <;> by_cases h2 : j = k <;> simp [upd, h1, h2]
  · omega
  · subst h1; simp [h]
  · subst h2; simp [Ne.symm h]
theorem upd_twice {α : Type} (f : Int → Option α) (k : Int) (x y : α) : upd (upd f k x) k y = upd f k y := by
  funext j
  by_cases h1 : j = k <;> simp [upd, h1]
/-- What Get answers. -/
def getR (f : Int → Option SV) (g : Int → Option PV) (i : Int) : PV × SV × Int :=
  if i < 0 ∨ 32 ≤ i then (p0, s0, 3) else
    match g i with
    | none => (p0, s0, 7)
    | some p => match f p.sps with
      | none => (p0, s0, 7)
      | some s => (p, s, 0)
/-- All that is known has its number, and is valid. -/
def AllS (f : Int → Option SV) : Prop := ∀ i x, f i = some x → x.id = i ∧ okS x = true
def AllP (g : Int → Option PV) : Prop := ∀ i x, g i = some x → x.id = i ∧ okP x = true
theorem AllS.upd {f : Int → Option SV} (h : AllS f) {x : SV} (hx : okS x = true) : AllS (upd f x.id x) := by
  intro i y hy
  by_cases e : i = x.id
  · subst e; rw [upd_same] at hy; cases hy; exact ⟨rfl, hx⟩
  · rw [upd_other f x e] at hy; exact h i y hy
theorem AllP.upd {f : Int → Option PV} (h : AllP f) {x : PV} (hx : okP x = true) : AllP (upd f x.id x) := by
  intro i y hy
  by_cases e : i = x.id
  · subst e; rw [upd_same] at hy; cases hy; exact ⟨rfl, hx⟩
  · rw [upd_other f x e] at hy; exact h i y hy
end Go.Proofs.YtjjjfmnhdnajkaaGreatDoor

end
section
set_option maxRecDepth 20000
namespace Go.Proofs.YtjjjfmnhdnajkaaGreatDoor

theorem valOf_byte (s : ByteArray) (pos k : Nat) (h : pos % 8 + k ≤ 8) : valOf s pos k = ((s.data.getD (pos / 8) 0).toNat / 2 ^ (8 - pos % 8 - k)) % 2 ^ k := by
  induction k with
  | zero => simp [valOf, Nat.mod_one]
  | succ k ih =>
    have e1 : (pos + k) / 8 = pos / 8 := by omega
    have e2 : (pos + k) % 8 = pos % 8 + k := by omega
    simp only [valOf, bitAt, ih (by omega), e1, e2]
    obtain ⟨t, ht⟩ : ∃ t, t = 8 - pos % 8 - (k + 1) := ⟨_, rfl⟩
    rw [show 8 - pos % 8 - k = t + 1 from by omega, ← ht, show 7 - (pos % 8 + k) = t from by omega, Nat.testBit_eq_decide_div_mod_eq, Nat.pow_succ 2 t, ← Nat.div_div_eq_div_mul, Nat.pow_succ, Nat.mul_comm (2 ^ k) 2, Nat.mod_mul]
    have : ((s.data.getD (pos / 8) 0).toNat / 2 ^ t) % 2 < 2 := Nat.mod_lt _ (by omega)
    generalize (s.data.getD (pos / 8) 0).toNat / 2 ^ t = y at *
    by_cases hy : y % 2 = 1
    · simp [hy]; omega
    · have : y % 2 = 0 := by omega
      simp [this]

theorem valOf_add (s : ByteArray) (pos a b : Nat) : valOf s pos (a + b) = valOf s pos a * 2 ^ b + valOf s (pos + a) b := by
  induction b with
  | zero => simp [valOf]
  | succ b ih => rw [← Nat.add_assoc]; simp only [valOf, ih, Nat.pow_succ]; rw [Nat.add_assoc pos a b]; generalize valOf s pos a = x; generalize valOf s (pos + a) b = y; rw [← Nat.mul_assoc]; generalize x * 2 ^ b = z; omega

theorem shl_shr (x p k : Nat) (h : p + k ≤ 8) : x * 2 ^ p % 256 / 2 ^ (8 - k) = x / 2 ^ (8 - p - k) % 2 ^ k := by
  apply Nat.eq_of_testBit_eq
  intro i
  rw [show (256 : Nat) = 2 ^ 8 from rfl, ← Nat.shiftLeft_eq, ← Nat.shiftRight_eq_div_pow, ← Nat.shiftRight_eq_div_pow]
  simp only [Nat.testBit_shiftRight, Nat.testBit_mod_two_pow, Nat.testBit_shiftLeft]
  by_cases hi : i < k
  · have a1 : 8 - k + i < 8 := by omega
    have a2 : p ≤ 8 - k + i := by omega
    have a3 : 8 - k + i - p = 8 - p - k + i := by omega
    simp [hi, a1, a2, a3]
  · have a1 : ¬ 8 - k + i < 8 := by omega
    simp [hi, a1]

/-- What the program reckons of a byte is the number of its bits. -/
theorem next_val (s : ByteArray) (pos k : Nat) (h : pos % 8 + k ≤ 8) : (s.data.getD (pos / 8) 0).toNat * 2 ^ (pos % 8) % 256 / 2 ^ (8 - k) = valOf s pos k := by
  rw [valOf_byte s pos k h, shl_shr _ _ _ h]

theorem or_add (v x k : Nat) (hx : x < 2 ^ k) : (v * 2 ^ k) ||| x = v * 2 ^ k + x := by
  rw [← Nat.shiftLeft_eq, Nat.shiftLeft_add_eq_or_of_lt hx]
theorem wrap_nat (a : Nat) (h : a < 2 ^ 64) : IntKind.u64.wrap (a : Int) = (a : Int) := by
  rw [IntKind.wrap_u64]; have : (2 : Nat) ^ 64 = 18446744073709551616 := by decide
  omega
theorem pow_le64 {j : Nat} (h : j ≤ 64) : 2 ^ j ≤ 2 ^ 64 := Nat.pow_le_pow_right (by omega) h
/-- What the program reckons of v shifted by k, or x. -/
theorem or_val (v x j k : Nat) (hv : v < 2 ^ j) (hx : x < 2 ^ k) (h : j + k ≤ 64) :
    bits .or .u64 (IntKind.u64.wrap ((v : Int) * 2 ^ k)) (IntKind.u64.wrap (x : Int)) = ((v * 2 ^ k + x : Nat) : Int) := by
  have h1 : v * 2 ^ k < 2 ^ (j + k) := by rw [Nat.pow_add]; exact Nat.mul_lt_mul_of_pos_right hv (Nat.pow_pos (by omega))
  have h2 := pow_le64 h
  have h3 := pow_le64 (show k ≤ 64 by omega)
  have e : ((v : Int) * 2 ^ k) = ((v * 2 ^ k : Nat) : Int) := by rw [Int.natCast_mul, Int.natCast_pow]; rfl
  have h4 : (2 : Nat) ^ 64 = 18446744073709551616 := by decide
  rw [e, wrap_nat _ (by omega), wrap_nat _ (by omega), u64_or_nat _ _ (by omega) (by omega), or_add _ _ _ hx]
theorem getD_at (s : ByteArray) (i : Nat) (h : i < s.size) : s.data.getD i 0 = s[i] := by
  have hz : i < s.data.size := h
  rw [Array.getD_eq_getD_getElem?, Array.getElem?_eq_getElem hz]; rfl
/-- A bit of a byte, as the reference reckons it. -/
theorem bit_num (x t : Nat) (hx : x < 256) : bits .and .u8 ((x : Int) / 2 ^ t) 1 = ((x.testBit t).toNat : Int) := by
  have e : ((x : Int) / 2 ^ t) = ((x / 2 ^ t : Nat) : Int) := by rw [Int.natCast_ediv, Int.natCast_pow]; rfl
  have h : x / 2 ^ t < 256 := Nat.lt_of_le_of_lt (Nat.div_le_self _ _) hx
  rw [e, show (1 : Int) = ((1 : Nat) : Int) from rfl, u8_and_nat _ _ h (by omega), nat_mask1, Nat.toNat_testBit]
/-- A bit more of a number, as the reference reckons it. -/
theorem bit_more (s : ByteArray) (q v j : Nat) (hv : v < 2 ^ j) (hj : j < 64) (h : q / 8 < s.size) :
    IntKind.u64.wrap (IntKind.u64.wrap (2 * (v : Int)) + IntKind.u64.wrap (bits .and .u8 (((s[q / 8]'h).toNat : Int) / 2 ^ (7 - q % 8)) 1)) = ((2 * v + (bitAt s q).toNat : Nat) : Int) := by
  have h1 : 2 ^ (j + 1) ≤ 2 ^ 64 := pow_le64 (by omega)
  have h4 : (2 : Nat) ^ 64 = 18446744073709551616 := by decide
  rw [Nat.pow_succ] at h1
  rw [bit_num _ _ (UInt8.toNat_lt _), ← getD_at s (q / 8) h, show ((s.data.getD (q / 8) 0).toNat.testBit (7 - q % 8)) = bitAt s q from rfl]
  have h5 : (bitAt s q).toNat ≤ 1 := Bool.toNat_le _
  rw [IntKind.wrap_u64, IntKind.wrap_u64, IntKind.wrap_u64]
  omega
end Go.Proofs.YtjjjfmnhdnajkaaGreatDoor

end
section
set_option maxRecDepth 20000
namespace Go.Proofs.YtjjjfmnhdnajkaaGreatDoor
set_option linter.unusedVariables false

/-- The number of n bits of f, from pos on. -/
def valF (f : Nat → Bool) (pos : Nat) : Nat → Nat
  | 0 => 0
  | n + 1 => 2 * valF f pos n + (f (pos + n)).toNat

theorem valOf_eq (s : ByteArray) (pos n : Nat) : valOf s pos n = valF (bitAt s) pos n := by
  induction n with
  | zero => rfl
  | succ n ih => simp only [valOf, valF, ih]
theorem valF_lt (f : Nat → Bool) (pos n : Nat) : valF f pos n < 2 ^ n := by
  induction n with
  | zero => simp [valF]
  | succ n ih => simp only [valF, Nat.pow_succ]; have : (f (pos + n)).toNat ≤ 1 := Bool.toNat_le _; omega
theorem valF_congr {f g : Nat → Bool} {p q n : Nat} (h : ∀ j, j < n → f (p + j) = g (q + j)) : valF f p n = valF g q n := by
  induction n with
  | zero => rfl
  | succ n ih => simp only [valF]; rw [ih (fun j hj => h j (by omega)), h n (by omega)]
theorem valF_bit (f : Nat → Bool) (pos n j : Nat) (h : j < n) : (valF f pos n).testBit (n - 1 - j) = f (pos + j) := by
  induction n with
  | zero => omega
  | succ n ih =>
    simp only [valF]
    have hb : (f (pos + n)).toNat ≤ 1 := Bool.toNat_le _
    by_cases e : j = n
    · subst e
      rw [show j + 1 - 1 - j = 0 from by omega, Nat.testBit_zero]
      cases f (pos + j) <;> simp <;> omega
    · rw [show n + 1 - 1 - j = (n - 1 - j) + 1 from by omega, Nat.testBit_succ, ← ih (by omega)]
      congr 1
      omega
/-- A number of n bits is known by its bits. -/
theorem eq_valF (x : Nat) (f : Nat → Bool) (pos n : Nat) (hx : x < 2 ^ n) (h : ∀ j, j < n → x.testBit (n - 1 - j) = f (pos + j)) : x = valF f pos n := by
  apply Nat.eq_of_testBit_eq
  intro i
  by_cases hi : i < n
  · have e : i = n - 1 - (n - 1 - i) := by omega
    rw [e, h _ (by omega), valF_bit _ _ _ _ (by omega)]
  · rw [Nat.testBit_lt_two_pow (Nat.lt_of_lt_of_le hx (Nat.pow_le_pow_right (by omega) (by omega))), Nat.testBit_lt_two_pow (Nat.lt_of_lt_of_le (valF_lt f pos n) (Nat.pow_le_pow_right (by omega) (by omega)))]

/-- The bit i of a list, false behind its end; its bytes. -/
def bitL (l : List Bool) (i : Nat) : Bool := l.getD i false
def byteL (l : List Bool) (i : Nat) : Nat := valF (bitL l) (8 * i) 8
/-- The n bits of v, the highest one first. -/
def bitsOf (n v : Nat) : List Bool := (List.range n).map fun i => v.testBit (n - 1 - i)
/-- The first n bytes of a list of bits. -/
def packN (l : List Bool) (n : Nat) : List UInt8 := (List.range n).map fun i => UInt8.ofNat (byteL l i)
/-- A list of bits as bytes. -/
def pack (l : List Bool) : ByteArray := ⟨(packN l ((l.length + 7) / 8)).toArray⟩
/-- A list of bits as characters. -/
def chars (l : List Bool) : ByteArray := ⟨(l.map fun b => if b then (49 : UInt8) else 48).toArray⟩

@[simp] theorem length_bitsOf (n v : Nat) : (bitsOf n v).length = n := by simp [bitsOf]
@[simp] theorem length_packN (l : List Bool) (n : Nat) : (packN l n).length = n := by simp [packN]
@[simp] theorem size_pack (l : List Bool) : (pack l).size = (l.length + 7) / 8 := by simp [pack, ByteArray.size]
@[simp] theorem size_chars (l : List Bool) : (chars l).size = l.length := by simp [chars, ByteArray.size]
theorem byteL_lt (l : List Bool) (i : Nat) : byteL l i < 256 := valF_lt _ _ 8

theorem bitL_append (l m : List Bool) (i : Nat) : bitL (l ++ m) i = if i < l.length then bitL l i else bitL m (i - l.length) := by
  unfold bitL
  by_cases h : i < l.length
  · rw [if_pos h]; simp [List.getD_eq_getElem?_getD, List.getElem?_append_left h]
  · rw [if_neg h]; simp [List.getD_eq_getElem?_getD, List.getElem?_append_right (Nat.le_of_not_lt h)]
theorem bitL_of_le (l : List Bool) (i : Nat) (h : l.length ≤ i) : bitL l i = false := by
  simp [bitL, List.getD_eq_getElem?_getD, List.getElem?_eq_none h]
theorem bitL_bitsOf (n v i : Nat) : bitL (bitsOf n v) i = (decide (i < n) && v.testBit (n - 1 - i)) := by
  by_cases h : i < n
  · simp [bitL, bitsOf, h]
  · rw [bitL_of_le _ _ (by simp; omega)]; simp [h]

/-- What was packed is read. -/
theorem bitAt_pack (l : List Bool) (i : Nat) : bitAt (pack l) i = bitL l i := by
  unfold bitAt
  by_cases h : i / 8 < (l.length + 7) / 8
  · have e : (pack l).data.getD (i / 8) 0 = UInt8.ofNat (byteL l (i / 8)) := by
      have hz : i / 8 < (packN l ((l.length + 7) / 8)).length := by simpa using h
      show ((packN l ((l.length + 7) / 8)).toArray).getD (i / 8) 0 = _
      rw [Array.getD_eq_getD_getElem?]
      simp [packN, h]
    rw [e]
    have h2 : (UInt8.ofNat (byteL l (i / 8))).toNat = byteL l (i / 8) := by
      rw [UInt8.toNat_ofNat']; exact Nat.mod_eq_of_lt (byteL_lt _ _)
    rw [h2]
    unfold byteL
    rw [show 7 - i % 8 = 8 - 1 - i % 8 from rfl, valF_bit _ _ _ _ (by omega)]
    congr 1; omega
  · have e : (pack l).data.getD (i / 8) 0 = 0 := by
      show ((packN l ((l.length + 7) / 8)).toArray).getD (i / 8) 0 = _
      rw [Array.getD_eq_getD_getElem?, Array.getElem?_eq_none (by simp; omega)]; rfl
    rw [e, bitL_of_le _ _ (by omega)]
    simp

/-- What was written with n bits is read as it was. -/
theorem val_bitsOf (n v : Nat) (h : v < 2 ^ n) : valF (bitL (bitsOf n v)) 0 n = v :=
  (eq_valF v _ 0 n h (fun j hj => by rw [Nat.zero_add, bitL_bitsOf]; simp [hj])).symm
theorem val_mid (l m r : List Bool) (n v : Nat) (hm : m = bitsOf n v) (h : v < 2 ^ n) : valF (bitL (l ++ (m ++ r))) l.length n = v := by
  subst hm
  rw [← val_bitsOf n v h]
  rw [val_bitsOf n v h]
  refine Eq.trans (valF_congr (g := bitL (bitsOf n v)) (q := 0) fun j hj => ?_) (val_bitsOf n v h)
  rw [bitL_append, if_neg (by omega), show l.length + j - l.length = j from by omega, bitL_append, if_pos (by simpa using hj), Nat.zero_add]
end Go.Proofs.YtjjjfmnhdnajkaaGreatDoor

end
section
set_option maxRecDepth 20000
namespace Go.Proofs.YtjjjfmnhdnajkaaGreatDoor
set_option linter.unusedVariables false

/-- The number v as Put holds it ahead of its byte i (from 1 on). -/
def vAt (n m v i : Nat) : Nat := v * 2 ^ (64 - n + (8 - m) + 8 * (i - 1)) % 2 ^ 64

theorem vAt_lt (n m v i : Nat) : vAt n m v i < 2 ^ 64 := Nat.mod_lt _ (Nat.pow_pos (by omega))
theorem wrap_mod (a : Nat) : IntKind.u64.wrap (a : Int) = ((a % 2 ^ 64 : Nat) : Int) := by
  rw [IntKind.wrap_u64]; have : (2 : Nat) ^ 64 = 18446744073709551616 := by decide
  rw [this]; omega
theorem mul_cast (a k : Nat) : (a : Int) * 2 ^ k = ((a * 2 ^ k : Nat) : Int) := by rw [Int.natCast_mul, Int.natCast_pow]; rfl
theorem div_cast (a k : Nat) : (a : Int) / 2 ^ k = ((a / 2 ^ k : Nat) : Int) := by rw [Int.natCast_ediv, Int.natCast_pow]; rfl
theorem x_lt {n v : Nat} (hn : n ≤ 64) (hv : v < 2 ^ n) : v * 2 ^ (64 - n) < 2 ^ 64 := by
  have h : v * 2 ^ (64 - n) < 2 ^ n * 2 ^ (64 - n) := Nat.mul_lt_mul_of_pos_right hv (Nat.pow_pos (by omega))
  rw [← Nat.pow_add, show n + (64 - n) = 64 from by omega] at h
  exact h
theorem wrap_x {n v : Nat} (hn : n ≤ 64) (hv : v < 2 ^ n) : IntKind.u64.wrap ((v : Int) * 2 ^ (64 - n)) = ((v * 2 ^ (64 - n) : Nat) : Int) := by
  rw [mul_cast, wrap_mod, Nat.mod_eq_of_lt (x_lt hn hv)]
theorem v_first {n v m : Nat} (hn : n ≤ 64) (hv : v < 2 ^ n) : IntKind.u64.wrap (IntKind.u64.wrap ((v : Int) * 2 ^ (64 - n)) * 2 ^ (8 - m)) = ((vAt n m v 1 : Nat) : Int) := by
  rw [wrap_x hn hv, mul_cast, wrap_mod]
  unfold vAt
  rw [Nat.mul_assoc, ← Nat.pow_add]
  rfl
theorem v_next {n v m i : Nat} (hi : 1 ≤ i) : vAt n m v i * 2 ^ 8 % 2 ^ 64 = vAt n m v (i + 1) := by
  unfold vAt
  rw [Nat.mod_mul_mod, Nat.mul_assoc, ← Nat.pow_add]
  congr 3
  omega
theorem bit_shl (v e t : Nat) : (v * 2 ^ e).testBit t = (decide (e ≤ t) && v.testBit (t - e)) := by
  rw [← Nat.shiftLeft_eq, Nat.testBit_shiftLeft]

/-- The byte i of what is written, from the second one on. -/
theorem y_next {n v m i q : Nat} {l : List Bool} (hl : l.length = 8 * q + m) (hm : m < 8) (hn : n ≤ 64) (hi : 1 ≤ i) : vAt n m v i / 2 ^ 56 = byteL (l ++ bitsOf n v) (q + i) := by
  unfold byteL
  refine eq_valF _ _ _ _ ?_ fun j hj => ?_
  · have := vAt_lt n m v i
    exact (Nat.div_lt_iff_lt_mul (Nat.pow_pos (by omega))).2 (by rw [← Nat.pow_add]; exact this)
  · rw [← Nat.shiftRight_eq_div_pow, Nat.testBit_shiftRight]
    unfold vAt
    rw [Nat.testBit_mod_two_pow, bit_shl, bitL_append, if_neg (by omega), bitL_bitsOf]
    have e1 : 56 + (8 - 1 - j) < 64 := by omega
    by_cases h : 8 * (q + i) + j - l.length < n
    · have e2 : 64 - n + (8 - m) + 8 * (i - 1) ≤ 56 + (8 - 1 - j) := by omega
      have e3 : 56 + (8 - 1 - j) - (64 - n + (8 - m) + 8 * (i - 1)) = n - 1 - (8 * (q + i) + j - l.length) := by omega
      simp only [e1, e2, h, e3, decide_true, Bool.true_and]
    · have e2 : ¬ 64 - n + (8 - m) + 8 * (i - 1) ≤ 56 + (8 - 1 - j) := by omega
      simp only [e2, h, decide_false, Bool.false_and, Bool.and_false]

/-- The first byte of what is written. -/
theorem y_first {n v m q : Nat} {l : List Bool} (hl : l.length = 8 * q + m) (hm : m < 8) (hn : n ≤ 64) (hv : v < 2 ^ n) :
    byteL l q ||| (v * 2 ^ (64 - n) / 2 ^ (56 + m)) = byteL (l ++ bitsOf n v) q := by
  have hx := x_lt hn hv
  have hy : v * 2 ^ (64 - n) / 2 ^ (56 + m) < 2 ^ 8 :=
    (Nat.div_lt_iff_lt_mul (Nat.pow_pos (by omega))).2 (Nat.lt_of_lt_of_le hx (by rw [← Nat.pow_add]; exact Nat.pow_le_pow_right (by omega) (by omega)))
  show _ = valF (bitL (l ++ bitsOf n v)) (8 * q) 8
  refine eq_valF _ _ _ _ (Nat.or_lt_two_pow (valF_lt _ _ 8) hy) fun j hj => ?_
  rw [Nat.testBit_or, show byteL l q = valF (bitL l) (8 * q) 8 from rfl, valF_bit _ _ _ _ hj, ← Nat.shiftRight_eq_div_pow, Nat.testBit_shiftRight, bitL_append]
  by_cases h : j < m
  · rw [if_pos (by omega), Nat.testBit_lt_two_pow (Nat.lt_of_lt_of_le hx (Nat.pow_le_pow_right (by omega) (by omega))), Bool.or_false]
  · rw [if_neg (by omega), bitL_of_le l _ (by omega), Bool.false_or, bit_shl, bitL_bitsOf]
    by_cases h2 : 8 * q + j - l.length < n
    · have e2 : 64 - n ≤ 56 + m + (8 - 1 - j) := by omega
      have e3 : 56 + m + (8 - 1 - j) - (64 - n) = n - 1 - (8 * q + j - l.length) := by omega
      simp only [e2, h2, e3, decide_true, Bool.true_and]
    · have e2 : ¬ 64 - n ≤ 56 + m + (8 - 1 - j) := by omega
      simp only [e2, h2, decide_false, Bool.false_and]
theorem y_first_int {n v m q : Nat} {l : List Bool} (hl : l.length = 8 * q + m) (hm : m < 8) (hn : n ≤ 64) (hv : v < 2 ^ n) :
    bits .or .u8 (byteL l q : Int) (IntKind.u64.wrap ((v : Int) * 2 ^ (64 - n)) / 2 ^ (56 + m) % 256) = (byteL (l ++ bitsOf n v) q : Int) := by
  have hx := x_lt hn hv
  have hy : v * 2 ^ (64 - n) / 2 ^ (56 + m) < 256 :=
    (Nat.div_lt_iff_lt_mul (Nat.pow_pos (by omega))).2 (Nat.lt_of_lt_of_le hx (by rw [show 256 = 2 ^ 8 from rfl, ← Nat.pow_add]; exact Nat.pow_le_pow_right (by omega) (by omega)))
  have hf := y_first hl hm hn hv
  rw [wrap_x hn hv, div_cast]
  generalize v * 2 ^ (64 - n) / 2 ^ (56 + m) = y at *
  rw [Int.emod_eq_of_lt (by omega) (by omega), u8_or_nat _ _ (byteL_lt _ _) hy, hf]

theorem byteL_append (l r : List Bool) (i : Nat) (h : 8 * i + 8 ≤ l.length) : byteL (l ++ r) i = byteL l i :=
  valF_congr fun j hj => by rw [bitL_append, if_pos (by omega)]
theorem packN_append (l r : List Bool) (q k : Nat) (h : 8 * q ≤ l.length) : packN (l ++ r) (q + k) = packN l q ++ (List.range k).map fun j => UInt8.ofNat (byteL (l ++ r) (q + j)) := by
  unfold packN
  rw [List.range_add, List.map_append, List.map_map]
  congr 1
  refine List.map_congr_left fun i hi => ?_
  rw [byteL_append l r i (by have := List.mem_range.1 hi; omega)]
end Go.Proofs.YtjjjfmnhdnajkaaGreatDoor

end
section
set_option maxRecDepth 20000
namespace Go.Proofs.YtjjjfmnhdnajkaaGreatDoor
open Go.RowKit Go.Maps
set_option linter.unusedVariables false

section
variable {α : Type} {P : Program} {V : α → Value} {K E T : TypeId}
open Classical in
/-- An element, by what it is. -/
noncomputable def elE (V : α → Value) (v : Value) : Option (DataW α × List MemPlace) := if h : ∃ x, v = V x then some (.held h.choose, []) else none
theorem elE_mk (hV : ∀ x y, V x = V y → x = y) (x : α) : elE V (V x) = some (.held x, []) := by
  have h : ∃ y, V x = V y := ⟨x, rfl⟩
  rw [elE, dif_pos h, hV _ _ h.choose_spec.symm]
theorem elE_inv {v : Value} {z : DataW α × List MemPlace} (h : elE V v = some z) : ∃ x, v = V x ∧ z = (.held x, []) := by
  unfold elE at h
  split at h
  · rename_i hx; cases h; exact ⟨_, hx.choose_spec, rfl⟩
  · cases h
def IntOk (k : Int) : Prop := -9223372036854775808 ≤ k ∧ k ≤ 9223372036854775807
theorem intOk_wf {k : Int} (h : IntOk k) : (Lit.int .i64 k).wf = true := WalkArith.wf_i64 (by unfold IntOk at h; omega)
/-- The map at block b holds what f says; it has at most n entries. -/
def MapAt (P : Program) (K : TypeId) (V : α → Value) (w : World) (b n : Nat) (f : Int → Option α) : Prop :=
  ∃ M : DataW α, w.ownsMap P K (elE V) b n M ∧ ∀ k, IntOk k → Maps.has M (.int .i64 k) = (f k).isSome ∧ ∀ x, f k = some x → ∀ z, M.atKey (.int .i64 k) z = .held x
/-- .. or it is nil. -/
def MapIn (P : Program) (K : TypeId) (V : α → Value) (w : World) (m : Option Nat) (n : Nat) (f : Int → Option α) : Prop :=
  match m with | none => f = fun _ => none | some b => MapAt P K V w b n f
variable {w w' : World} {b n : Nat} {m : Option Nat} {f : Int → Option α}
theorem MapAt.lt (h : MapAt P K V w b n f) : b < w.heap.size := let ⟨_, h, _⟩ := h; h.lt
theorem MapAt.block (h : MapAt P K V w b n f) (hw : w'.heap[b]? = w.heap[b]?) : MapAt P K V w' b n f := by
  obtain ⟨M, ⟨es, clock, hb, r⟩, h2⟩ := h
  exact ⟨M, ⟨es, clock, hw.trans hb, r⟩, h2⟩
theorem MapAt.only {S : List Nat} (h : MapAt P K V w b n f) (k : Only S w w') (hb : b ∉ S) : MapAt P K V w' b n f := h.block (k.block b h.lt hb)
theorem MapAt.mono (h : MapAt P K V w b n f) {n' : Nat} (hn : n ≤ n') : MapAt P K V w b n' f := let ⟨M, h1, h2⟩ := h; ⟨M, h1.mono hn, h2⟩
theorem MapIn.only {S : List Nat} (h : MapIn P K V w m n f) (k : Only S w w') (hb : ∀ b, m = some b → b ∉ S) : MapIn P K V w' m n f := by
  cases m with
  | none => exact h
  | some b => exact MapAt.only h k (hb b rfl)
theorem MapIn.mono (h : MapIn P K V w m n f) {n' : Nat} (hn : n ≤ n') : MapIn P K V w m n' f := by
  cases m with
  | none => exact h
  | some b => exact MapAt.mono h hn
theorem MapIn.lt (h : MapIn P K V w m n f) : ∀ b, m = some b → b < w.heap.size := by
  intro b e; subst e; exact MapAt.lt h
/-- A new map. -/
theorem MapAt.new (w : World) : MapAt P K V (w.alloc (.map #[] 0)) w.heap.size 0 (fun _ => none) :=
  ⟨.map [], World.ownsMap_made w P K (elE V), fun k _ => ⟨rfl, fun x h => by cases h⟩⟩
/-- A look-up. -/
theorem MapIn.look (h : MapIn P K V w m n f) (hK : P.underlying K = some (.int .i64)) (hT : P.underlying T = some (.map K E)) (hV : ∀ x y, V x = V y → x = y) {x0 : α} (hz : ∀ w, (zeroValue E).run P w = .ok (V x0) w) {k : Int} (hk : IntOk k) :
    (Instr.lookup T (.map m) (.int .i64 k) true).run P w = .ok (.tuple #[V ((f k).getD x0), .bool (f k).isSome]) w := by
  cases m with
  | none =>
    rw [Maps.look_nil true (int_keyed hK) hT (hz w) (keyOf_int_mk hK (intOk_wf hk))]
    rw [show f = fun _ => none from h]
    rfl
  | some b =>
    obtain ⟨M, ho, hr⟩ := h
    obtain ⟨v, ps, hrun, hv⟩ := ho.look_ok (int_keyed hK) hT (hz w) (elE_mk hV x0) (keyOf_int_mk hK (intOk_wf hk))
    obtain ⟨h1, h2⟩ := hr k hk
    rw [hrun, h1]
    obtain ⟨x, rfl, hx⟩ := elE_inv hv
    simp only [Prod.mk.injEq] at hx
    cases e : f k with
    | none =>
      have a := Maps.atKey_of_not_has (D := M) (k := .int .i64 k) (by rw [h1, e]; rfl) (.held x0)
      rw [a] at hx
      cases hx.1
      rfl
    | some y =>
      have a := h2 y e (.held x0)
      rw [a] at hx
      cases hx.1
      rfl
/-- A store. -/
theorem MapAt.store (h : MapAt P K V w b n f) (hK : P.underlying K = some (.int .i64)) (hT : P.underlying T = some (.map K E)) (hV : ∀ x y, V x = V y → x = y) (hn : n < maxLen) {k : Int} (hk : IntOk k) (x : α) :
    ∃ w', (Instr.mapUpdate T (.map (some b)) (.int .i64 k) (V x)).run P w = .ok () w' ∧ MapAt P K V w' b (n + 1) (upd f k x) ∧ Only [b] w w' ∧ w'.heap.size = w.heap.size ∧ (∀ a : Addr, a.block ≠ b → w'.cell? a = w.cell? a ∧ w'.frozen? a = w.frozen? a) := by
  obtain ⟨M, ho, hr⟩ := h
  obtain ⟨w', hrun, ho', ht⟩ := ho.store (int_keyed hK) hT hn (keyOf_int_mk hK (intOk_wf hk)) (elE_mk hV x)
  have kk : WideAt.IsKeyLit (.int .i64 k) := (int_keyed hK).key (keyOf_int_mk hK (intOk_wf hk))
  have hsz : w'.heap.size = w.heap.size := by obtain ⟨_, _, _, _, _, rfl⟩ := ht; simp [ChangeMaps.setBlock]
  have hB : ∀ i, i ≠ b → w'.heap[i]? = w.heap[i]? := by
    intro i hi
    obtain ⟨_, _, _, _, hb, rfl⟩ := ht
    exact ChangeMaps.heap_setBlock_other hb _ hi
  refine ⟨w', hrun, ⟨_, ho', fun j hj => ?_⟩, ⟨?_, ?_, ?_, by omega, fun i hi hs => hB i (by simpa using hs)⟩, hsz, fun a ha => ⟨World.cell?_of_block (w := w) (hB _ ha), World.frozen?_of_block (w := w) (hB _ ha)⟩⟩
  · by_cases e : j = k
    · subst e
      refine ⟨by rw [Maps.has_put_same ho.isMap kk, upd_same]; rfl, fun y hy z => ?_⟩
      rw [upd_same] at hy; cases hy
      exact Maps.atKey_put_same ho.isMap kk _ _
    · have hne : (Lit.int .i64 j) ≠ .int .i64 k := fun h => e (by injection h)
      obtain ⟨h1, h2⟩ := hr j hj
      refine ⟨by rw [Maps.has_put_other hne, upd_other f x e]; exact h1, fun y hy z => ?_⟩
      rw [upd_other f x e] at hy
      rw [Maps.atKey_put_other hne]
      exact h2 y hy z
  · obtain ⟨_, _, _, _, _, rfl⟩ := ht; rfl
  · obtain ⟨_, _, _, _, _, rfl⟩ := ht; rfl
  · obtain ⟨_, _, _, _, _, rfl⟩ := ht; rfl
end
end Go.Proofs.YtjjjfmnhdnajkaaGreatDoor

end

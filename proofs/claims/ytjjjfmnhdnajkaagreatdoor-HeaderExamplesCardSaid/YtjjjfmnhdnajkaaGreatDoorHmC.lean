/- The laws' helpers: a header and a unit that are made valid. -/
import Derived.Test.YtjjjfmnhdnajkaaGreatDoorHmE
import Derived.Test.YtjjjfmnhdnajkaaGreatDoorHmD
import Derived.Test.YtjjjfmnhdnajkaaGreatDoorMg14
import Derived.Test.YtjjjfmnhdnajkaaGreatDoorQlate
namespace Go.Proofs.YtjjjfmnhdnajkaaGreatDoor
open Go.RowKit
set_option linter.unusedVariables false
set_option linter.unusedSimpArgs false

/-! ### The steps. -/
def mS1 (un : UN) (x : HV) : HV := { x with intra := un.idr || x.intra }
def mS2 (un : UN) (x : HV) : HV := { x with fi := x.fi % (un.s.wd * un.s.ht), pps := un.p.id }
def mS3 (un : UN) (x : HV) : HV := { x with fr := x.fr % 2 ^ un.s.fb.toNat, poc := x.poc % 2 ^ un.s.pb.toNat }
def mS4 (x : HV) : HV := { x with idr := x.idr % 65536 }
def mS5 (un : UN) (x : HV) : HV := { x with idr := if un.idr = true then x.idr else 0, f0 := un.idr && x.f0, f1 := un.idr && x.f1 }
def mS6 (x : HV) : HV := { x with over := x.over && !x.intra, listed := x.listed && !x.intra }
def mS7 (x : HV) : HV := { x with refs := 1 + x.refs % 32 }
def mS8 (x : HV) : HV := { x with refs := if x.over = true then x.refs else 0 }
def mS9 (un : UN) (x : HV) : HV := { x with ad := x.ad && (!un.idr && decide (0 < un.ref)) }
def mS10 (x : HV) : HV := { x with mods := cmdsM x.listed false x.mods, marks := cmdsM x.ad true x.marks }
def mS11 (x : HV) : HV := { x with ini := x.ini % 3 }
def mS12 (un : UN) (x : HV) : HV := { x with ini := if x.intra = false ∧ un.p.cab = true then x.ini else 0 }
def mS13 (un : UN) (x : HV) : HV := { x with qp := x.qp % 52 - 26 - un.p.qp }
def mS14 (x : HV) : HV := { x with fil := x.fil % 3, a := x.a % 13 - 6, b := x.b % 13 - 6 }
def mS15 (un : UN) (x : HV) : HV := { x with fil := if un.p.db = true then x.fil else 0 }
def mS16 (un : UN) (x : HV) : HV := { x with a := if un.p.db = true ∧ x.fil ≠ 1 then x.a else 0, b := if un.p.db = true ∧ x.fil ≠ 1 then x.b else 0 }
theorem made_steps (un : UN) (x : HV) : mS16 un (mS15 un (mS14 (mS13 un (mS12 un (mS11 (mS10 (mS9 un (mS8 (mS7 (mS6 (mS5 un (mS4 (mS3 un (mS2 un (mS1 un x))))))))))))))) = madeH un x := by
  have h : ∀ v : Int, (if un.p.db = true ∧ (if un.p.db = true then x.fil % 3 else 0) ≠ 1 then v % 13 - 6 else 0) = offM un x v := by
    intro v
    unfold offM
    cases un.p.db <;> simp
  have hi : (if un.idr = true then x.idr % 65536 else 0) = (if un.idr = true then x.idr % 65536 else 0) := rfl
  rw [HV.eq_iff]
  refine ⟨rfl, rfl, rfl, rfl, rfl, rfl, rfl, rfl, rfl, rfl, rfl, rfl, rfl, rfl, rfl, rfl, rfl, rfl, h _, h _⟩
def u0 : UN := ⟨0, false, p0, s0⟩
/-! ### What is in memory. -/
structure Md (W0 : World) (X U : Nat) (w : World) (x : HV) (un : UN) (ma : Option Addr) (mc : Nat) (ka : Option Addr) (kc : Nat) : Prop where
  bx : Blk w X 34 (hC x (.slice ma x.mods.length mc) (.slice ka x.marks.length kc)).toArray
  bu : Blk w U 30 (uL un).toArray
  hm : HoldsM w (.slice ma x.mods.length mc) x.mods
  hk : HoldsM w (.slice ka x.marks.length kc) x.marks
  fm : ∀ a, ma = some a → x.mods ≠ [] → a.block ≠ X ∧ a.block ≠ U
  fk : ∀ a, ka = some a → x.marks ≠ [] → a.block ≠ X ∧ a.block ≠ U
  ne : X ≠ U
  o : Only [X, U] W0 w
section
variable {W0 w w' : World} {X U : Nat} {x x' : HV} {un un' : UN} {ma ka : Option Addr} {mc kc : Nat}
theorem Md.only (h : Md W0 X U w x un ma mc ka kc) (k : Only [] w w') : Md W0 X U w' x un ma mc ka kc :=
  ⟨h.bx.only k (by simp), h.bu.only k (by simp), h.hm.only0 k, h.hk.only0 k, h.fm, h.fk, h.ne, h.o.trans (k.mono (by simp))⟩
theorem Md.lists (h : Md W0 X U w x un ma mc ka kc) {S : List Nat} (k : Only S w w') (hS : ∀ y, y ∈ S → y = X ∨ y = U) : HoldsM w' (.slice ma x.mods.length mc) x.mods ∧ HoldsM w' (.slice ka x.marks.length kc) x.marks :=
  ⟨h.hm.only2 k (fun ad n c e hl hm => by cases e; obtain ⟨a, b⟩ := h.fm ad rfl hl; rcases hS _ hm with e | e <;> contradiction), h.hk.only2 k (fun ad n c e hl hm => by cases e; obtain ⟨a, b⟩ := h.fk ad rfl hl; rcases hS _ hm with e | e <;> contradiction)⟩
theorem Md.setX (h : Md W0 X U w x un ma mc ka kc) (i : Nat) (v : Value) (hs : (hC x (.slice ma x.mods.length mc) (.slice ka x.marks.length kc)).toArray.setIfInBounds i v = (hC x' (.slice ma x'.mods.length mc) (.slice ka x'.marks.length kc)).toArray) (h1 : x'.mods = x.mods) (h2 : x'.marks = x.marks) :
    Md W0 X U (w.setCell ⟨X, i, none⟩ v) x' un ma mc ka kc := by
  have ox : Only [X] w (w.setCell ⟨X, i, none⟩ v) := (Only.refl _ _).setCell (.inl (by simp)) _
  have kl := h.lists ox (fun y hy => .inl (List.mem_singleton.1 hy))
  refine ⟨hs ▸ h.bx.set i v, h.bu.only ox (by simp; exact h.ne.symm), by rw [h1]; exact kl.1, by rw [h2]; exact kl.2, by rw [h1]; exact h.fm, by rw [h2]; exact h.fk, h.ne, h.o.trans (ox.mono (by intro y _ hy; simp at hy ⊢; exact .inl hy))⟩
theorem Md.setU (h : Md W0 X U w x un ma mc ka kc) (i : Nat) (v : Value) (hs : (uL un).toArray.setIfInBounds i v = (uL un').toArray) : Md W0 X U (w.setCell ⟨U, i, none⟩ v) x un' ma mc ka kc := by
  have ox : Only [U] w (w.setCell ⟨U, i, none⟩ v) := (Only.refl _ _).setCell (.inl (by simp)) _
  have kl := h.lists ox (fun y hy => .inr (List.mem_singleton.1 hy))
  exact ⟨h.bx.only ox (by simp; exact h.ne), hs ▸ h.bu.set i v, kl.1, kl.2, h.fm, h.fk, h.ne, h.o.trans (ox.mono (by intro y _ hy; simp at hy ⊢; exact .inr hy))⟩
theorem Md.c (h : Md W0 X U w x un ma mc ka kc) {i : Nat} {v : Value} (hi : (hC x (.slice ma x.mods.length mc) (.slice ka x.marks.length kc)).toArray[i]? = some v) : w.cell? ⟨X, i, none⟩ = some v ∧ w.frozen? ⟨X, i, none⟩ = false := ⟨h.bx.cell hi, h.bx.frozen i⟩
theorem Md.u (h : Md W0 X U w x un ma mc ka kc) {i : Nat} {v : Value} (hi : (uL un).toArray[i]? = some v) : w.cell? ⟨U, i, none⟩ = some v ∧ w.frozen? ⟨U, i, none⟩ = false := ⟨h.bu.cell hi, h.bu.frozen i⟩
end
theorem lv_unit {w : World} {k : Nat} {T : TypeId} {un : UN} (h : Blk w k T (uL un).toArray) : (loadVar 30 ⟨k, 0, none⟩).run Tryz.prog w = .ok (uV un) w := by
  have add : ∀ j : Nat, (⟨k, 0, none⟩ : Addr).add j = ⟨k, j, none⟩ := fun j => by cases j <;> simp [Addr.add]
  have hl := run_loadCells_list (P := Tryz.prog) w ⟨k, 0, none⟩ (uL un) (fun j v hj => by rw [add]; exact h.cell (by simpa using hj))
  rw [show (uL un).length = 21 from rfl] at hl
  simp only [loadVar]
  simp [hl, uV]
theorem hl_unit (k : Nat) (un : UN) (w : World) (hc : ∀ j v, (uL un)[j]? = some v → w.cell? ⟨k, j, none⟩ = some v) : (Instr.loadAt 30 (.pointer (some ⟨k, 0, none⟩))).run Tryz.prog w = .ok (.agg (uL un).toArray) w := by
  have add : ∀ j : Nat, (⟨k, 0, none⟩ : Addr).add j = ⟨k, j, none⟩ := fun j => by cases j <;> simp [Addr.add]
  have hl := run_loadCells_list (P := Tryz.prog) w ⟨k, 0, none⟩ (uL un) (fun j v hj => by rw [add]; exact hc j v hj)
  rw [show (uL un).length = 21 from rfl] at hl
  simp only [Instr.loadAt, Instr.sureAddr, Sem.run_bind, Sem.run_pure, Result.andThen_ok, loadVar]
  simp [hl]
theorem info_unit (un : UN) : (Tryz.prog.info? 30).map (·.size) = some (uL un).length := by
  show _ = some 21
  kernel_rfl
theorem one_uL (un : UN) : ∀ v ∈ uL un, v.oneCell' = true := by
  intro v h
  simp only [uL, List.mem_append, List.mem_cons, List.not_mem_nil, or_false] at h
  rcases h with (h | h) | h | h
  · subst h; rfl
  · subst h; rfl
  · exact one_pL _ v h
  · exact one_sL _ v h
theorem holdsM_lt {w : World} {ma : Option Addr} {k c : Nat} {l : List (Int × Int × Int)} {a : Addr} (h : HoldsM w (.slice ma k c) l) (e : ma = some a) (hl : l ≠ []) : a.block < w.heap.size := by
  subst e
  cases l with
  | nil => exact absurd rfl hl
  | cons y r =>
    obtain ⟨b, o, e, hx⟩ := h.at (j := 0) (x := y) rfl
    cases e
    exact World.block_lt_of_cell? _ _ hx.c0
theorem okP_qpM {p : PV} (h : okP p = true) : -26 ≤ p.qp ∧ p.qp ≤ 25 := by
  unfold okP at h
  simp only [Bool.and_eq_true] at h
  exact inB_true h.1.1.2
theorem blk5 (w : World) (ta tb tc td te : TypeId) (a b c d e : Array Value) :
    ∃ W, W = ((((w.alloc (.cells a ta)).alloc (.cells b tb)).alloc (.cells c tc)).alloc (.cells d td)).alloc (.cells e te) ∧ Blk W w.heap.size ta a ∧ Blk W (w.heap.size + 1) tb b ∧ Blk W (w.heap.size + 1 + 1) tc c ∧ Blk W (w.heap.size + 1 + 1 + 1) td d ∧ Blk W (w.heap.size + 1 + 1 + 1 + 1) te e ∧ Only [] w W := by
  have s1 : (w.alloc (.cells a ta)).heap.size = w.heap.size + 1 := World.size_alloc _ _
  have s2 : ((w.alloc (.cells a ta)).alloc (.cells b tb)).heap.size = w.heap.size + 1 + 1 := by rw [World.size_alloc, s1]
  have s3 : (((w.alloc (.cells a ta)).alloc (.cells b tb)).alloc (.cells c tc)).heap.size = w.heap.size + 1 + 1 + 1 := by rw [World.size_alloc, s2]
  have s4 : ((((w.alloc (.cells a ta)).alloc (.cells b tb)).alloc (.cells c tc)).alloc (.cells d td)).heap.size = w.heap.size + 1 + 1 + 1 + 1 := by rw [World.size_alloc, s3]
  have b1 := Blk.new w ta a
  have b2 := Blk.new (w.alloc (.cells a ta)) tb b
  have b3 := Blk.new ((w.alloc (.cells a ta)).alloc (.cells b tb)) tc c
  have b4 := Blk.new (((w.alloc (.cells a ta)).alloc (.cells b tb)).alloc (.cells c tc)) td d
  have b5 := Blk.new ((((w.alloc (.cells a ta)).alloc (.cells b tb)).alloc (.cells c tc)).alloc (.cells d td)) te e
  rw [s1] at b2
  rw [s2] at b3
  rw [s3] at b4
  rw [s4] at b5
  exact ⟨_, rfl, b1.only (((((Only.refl [] _).alloc _).alloc _).alloc _).alloc _) (by simp), b2.only ((((Only.refl [] _).alloc _).alloc _).alloc _) (by simp), b3.only (((Only.refl [] _).alloc _).alloc _) (by simp), b4.only ((Only.refl [] _).alloc _) (by simp), b5, ((((((Only.refl [] _).alloc _).alloc _).alloc _).alloc _).alloc _)⟩
theorem setsU_p (un : UN) (p : PV) : setsA (uL un).toArray 2 (pL p) = (uL { un with p := p }).toArray := by simp [setsA, uL, pL, sL]
theorem setsU_s (un : UN) (s : SV) : setsA (uL un).toArray 12 (sL s) = (uL { un with s := s }).toArray := by simp [setsA, uL, pL, sL]
theorem setsU_all (u un : UN) : setsA (uL u).toArray 0 (uL un) = (uL un).toArray := setsA_full (by simp [uL, pL, sL])
end Go.Proofs.YtjjjfmnhdnajkaaGreatDoor

/- The laws' helpers: loads of structs where there are guards; three boxes; what was made is valid; a store of both parameter sets. -/
import Derived.Test.YtojahafmfcfpaaaGreatDoorHmC
import Derived.Test.YtojahafmfcfpaaaGreatDoorHnP
namespace Go.Proofs.YtojahafmfcfpaaaGreatDoor
open Go.RowKit
set_option linter.unusedVariables false
set_option linter.unusedSimpArgs false

/-- A struct is loaded from anywhere: the operation alone. -/
theorem wp_load_at {P : Program} {w : World} {o : Oper} {a : Act} {K : Act → World → Prop} {Q : Exit → Act → World → Prop} (t : TypeId) (x : Operand) (ho : o.op = .load t x) (p : Addr) (cs : List Value)
    (hx : a.eval x = .pointer (some p)) (hl : (Instr.loadAt t (.pointer (some p))).run P w = .ok (.agg cs.toArray) w)
    (h : K (a.put o.dst (.agg cs.toArray)) w) : o.wp P a w K Q := by
  unfold Oper.wp execOp
  simp only [ho, hx]
  simp [hl, Result.andThen]
  exact h
/-- A struct is loaded from anywhere. -/
theorem load_atA {P : Program} {w : World} {ops : Array Oper} {rest : List Oper} {o : Oper} {a : Act} {Q : Exit → Act → World → Prop} (hg : o.guard = none) (t : TypeId) (x : Operand) (ho : o.op = .load t x) (p : Addr) (cs : List Value)
    (hx : a.eval x = .pointer (some p)) (hl : (Instr.loadAt t (.pointer (some p))).run P w = .ok (.agg cs.toArray) w)
    (h : wpList P ops Q rest (a.put o.dst (.agg cs.toArray)) w) : wpList P ops Q (o :: rest) a w := by
  refine wpList_plain hg fun K hK => ?_
  unfold Oper.wp execOp
  simp only [ho, hx]
  simp [hl, Result.andThen]
  exact hK _ _ (by simpa using h)
theorem own_stepA {W w w' : World} {L L' : List Nat} (O : Only [] W w) (HL : ∀ y, y ∈ L → W.heap.size ≤ y) (ho : Only L w w') (hl : ∀ y, y ∈ L' → y ∈ L ∨ w.heap.size ≤ y) : Only [] W w' ∧ ∀ y, y ∈ L' → W.heap.size ≤ y :=
  ⟨O.trans2 ho (fun x hx => .inr (HL x hx)), fun y hy => (hl y hy).elim (HL y) (fun h => Nat.le_trans O.size h)⟩
/-- Strings are compared as lists. -/
theorem toListB_inj {a b : ByteArray} : a.toList = b.toList ↔ a = b :=
  ⟨fun e => by rw [Lib.toList_data, Lib.toList_data] at e; exact ByteArray.ext (Array.toList_inj.1 e), fun e => e ▸ rfl⟩
theorem beq_toListB {a b : ByteArray} {c : Bool} (h : c = true ↔ a = b) : (a.toList == b.toList) = c := by
  cases c
  · rw [beq_eq_false_iff_ne]; intro e; have := h.2 (toListB_inj.1 e); cases this
  · rw [beq_iff_eq]; exact toListB_inj.2 (h.1 rfl)
theorem blk3 (w : World) (ta tb tc : TypeId) (a b c : Array Value) :
    ∃ W, W = ((w.alloc (.cells a ta)).alloc (.cells b tb)).alloc (.cells c tc) ∧ Blk W w.heap.size ta a ∧ Blk W (w.heap.size + 1) tb b ∧ Blk W (w.heap.size + 1 + 1) tc c ∧ Only [] w W := by
  have s1 : (w.alloc (.cells a ta)).heap.size = w.heap.size + 1 := World.size_alloc _ _
  have s2 : ((w.alloc (.cells a ta)).alloc (.cells b tb)).heap.size = w.heap.size + 1 + 1 := by rw [World.size_alloc, s1]
  have b1 := Blk.new w ta a
  have b2 := Blk.new (w.alloc (.cells a ta)) tb b
  have b3 := Blk.new ((w.alloc (.cells a ta)).alloc (.cells b tb)) tc c
  rw [s1] at b2
  rw [s2] at b3
  exact ⟨_, rfl, b1.only (((Only.refl [] _).alloc _).alloc _) (by simp), b2.only ((Only.refl [] _).alloc _) (by simp), b3, ((((Only.refl [] _).alloc _).alloc _).alloc _)⟩
theorem ho_ppsU {w : World} {k : Nat} {T : TypeId} {un : UN} (h : Blk w k T (uL un).toArray) : (Instr.loadAt 27 (.pointer (some ⟨k, 2, none⟩))).run Tryz.prog w = .ok (.agg (pL un.p).toArray) w := ho_pps k 2 un.p w (fun j v hj => h.cell (uL_p un j v hj))
theorem ho_spsU {w : World} {k : Nat} {T : TypeId} {un : UN} (h : Blk w k T (uL un).toArray) : (Instr.loadAt 29 (.pointer (some ⟨k, 12, none⟩))).run Tryz.prog w = .ok (.agg (sL un.s).toArray) w := ho_sps k 12 un.s w (fun j v hj => h.cell (uL_s un j v hj))
theorem ho_hdrB {w : World} {k : Nat} {T : TypeId} {x : HV} {mv kv : Value} (h : Blk w k T (hC x mv kv).toArray) : (Instr.loadAt 25 (.pointer (some ⟨k, 0, none⟩))).run Tryz.prog w = .ok (.agg (hC x mv kv).toArray) w := hl_hdr k x mv kv w (fun j v hj => h.cell (by simpa using hj))
theorem ho_unitB {w : World} {k : Nat} {T : TypeId} {un : UN} (h : Blk w k T (uL un).toArray) : (Instr.loadAt 31 (.pointer (some ⟨k, 0, none⟩))).run Tryz.prog w = .ok (.agg (uL un).toArray) w := hl_unit k un w (fun j v hj => h.cell (by simpa using hj))
/-- What is known of a header that was made. -/
structure Mok (un : UN) (x : HV) : Prop where
  ck : checkH un x = 0
  om : OksM x.mods
  ok : OksM x.marks
  l1 : x.mods.length ≤ 20
  l2 : x.marks.length ≤ 20
  r0 : 0 ≤ un.ref
  q0 : 0 ≤ 26 + un.p.qp + x.qp
  q1 : 26 + un.p.qp + x.qp ≤ 51
  c0 : un.p.cab = false → x.ini = 0
theorem mok_made (un : UN) (n : N8) (x : HV) (r0 : 0 ≤ un.ref) : Mok (madeU un n (bytesN n)) (madeH (madeU un n (bytesN n)) x) := by
  refine ⟨made_ok un n _ x r0, cmdsM_oks _ _ _, cmdsM_oks _ _ _, cmdsM_len _ _ _, cmdsM_len _ _ _, ?_, ?_, ?_, ?_⟩
  · unfold madeU refU; simp only; split <;> omega
  · simp only [madeH]; omega
  · simp only [madeH]; omega
  · intro h; simp only [madeH]; rw [if_neg (fun z => by rw [h] at z; exact absurd z.2 (by decide))]
theorem refs_of {un : UN} {x : HV} (h : checkH un x = 0) : ((if x.intra = true then (0 : Int) else if x.over = true then x.refs else un.p.rf) = 0 ↔ x.intra = true) ∧ 0 ≤ (if x.intra = true then (0 : Int) else if x.over = true then x.refs else un.p.rf) ∧ (if x.intra = true then (0 : Int) else if x.over = true then x.refs else un.p.rf) ≤ 32 := by
  obtain ⟨h1, h2, h3⟩ := checkH_ok h
  obtain ⟨u1, u2, u3, u4⟩ := un_ok h1
  have hr : 1 ≤ un.p.rf ∧ un.p.rf ≤ 32 := by
    unfold okP at u3
    simp only [Bool.and_eq_true] at u3
    exact inB_true u3.1.1.1.1.2
  have h4 : numE x.over x.refs (.ue 1 32) = 0 := restE_all 15 0 h3 4 (by omega) (by omega)
  cases hi : x.intra
  · cases ho : x.over
    · simp; omega
    · rw [ho] at h4
      have := numC_iff.1 (show numC (.ue 1 32) x.refs = 0 from h4)
      simp only [Cd.lo, Cd.hi] at this
      simp; omega
  · simp
theorem agg_u {a b : Array Value} (h : Value.agg a = .agg b) : a = b := by cases h; rfl
end Go.Proofs.YtojahafmfcfpaaaGreatDoor

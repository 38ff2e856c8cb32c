/- Plain: headers that were made, their bits; headers of the same unit; with and without arithmetic codes. -/
/- The laws' helpers: loads of structs where there are guards; three boxes; what was made is valid; a store of both parameter sets. -/
/- The laws' helpers: a store of both parameter sets. -/
import Derived.Test.YtjjjfmnhdnajkaaGreatDoorHmA
import Derived.Test.YtjjjfmnhdnajkaaGreatDoorMg19
import Derived.Test.YtjjjfmnhdnajkaaGreatDoorHmC
import Derived.Test.YtjjjfmnhdnajkaaGreatDoorMg13
section
set_option maxRecDepth 20000
namespace Go.Proofs.YtjjjfmnhdnajkaaGreatDoor
open Go.RowKit
set_option linter.unusedVariables false
set_option linter.unusedSimpArgs false

theorem hBits_ok {un : UN} {x : HV} (h : checkH un x = 0) : hBits un x = bitsH un x := if_pos h
theorem chars_data (l : List Bool) : (chars l).data = (l.map fun b => if b then (49 : UInt8) else 48).toArray := rfl
theorem chars_extract (l : List Bool) (i j : Nat) : (chars l).extract i j = chars ((l.take j).drop i) := by
  have : ((chars l).extract i j).data = (chars ((l.take j).drop i)).data := by
    rw [ByteArray.data_extract, chars_data, chars_data]
    simp [List.map_drop, List.map_take, List.drop_take]
  exact ByteArray.ext this
theorem chars_append (a b : List Bool) : chars a ++ chars b = chars (a ++ b) := by
  have : (chars a ++ chars b).data = (chars (a ++ b)).data := by
    rw [ByteArray.data_append, chars_data, chars_data, chars_data]
    simp
  exact ByteArray.ext this
theorem chars_get (l : List Bool) (i : Nat) (h : i < (chars l).size) : (chars l)[i]'h = if l[i]'(by simpa using h) then 49 else 48 := by
  show (chars l).data[i] = _
  simp [chars_data]
/-- Of two headers of a unit neither's bits are the other's beginning. -/
theorem apart_eq {un : UN} {x y : HV} (hx : checkH un x = 0) (hy : checkH un y = 0) (k : Nat) (hk : k = min (bitsH un x).length (bitsH un y).length) : (bitsH un x).take k = (bitsH un y).take k ↔ x = y := by
  constructor
  · intro h
    rcases Nat.le_total (bitsH un x).length (bitsH un y).length with hl | hl
    · rw [show k = (bitsH un x).length by omega, List.take_length] at h
      exact apart_h hx hy ⟨(bitsH un y).drop (bitsH un x).length, by rw [← List.take_append_drop (bitsH un x).length (bitsH un y), ← h]; simp⟩
    · rw [show k = (bitsH un y).length by omega, List.take_length] at h
      exact (apart_h hy hx ⟨(bitsH un x).drop (bitsH un y).length, by rw [← List.take_append_drop (bitsH un y).length (bitsH un x), h]; simp⟩).symm
  · rintro rfl; rfl
/-- The unit with arithmetic codes. -/
def cabU (un : UN) : UN := { un with p := { un.p with cab := true } }
theorem step_cab (un : UN) (x : HV) (j : Nat) (hj : j ≠ 10) : stepB (cabU un) x j = stepB un x j ∧ stepE (cabU un) x j = stepE un x j := by
  match j, hj with
  | 0, _ => exact ⟨rfl, rfl⟩
  | 1, _ => exact ⟨rfl, rfl⟩
  | 2, _ => exact ⟨rfl, rfl⟩
  | 3, _ => exact ⟨rfl, rfl⟩
  | 4, _ => exact ⟨rfl, rfl⟩
  | 5, _ => exact ⟨rfl, rfl⟩
  | 6, _ => exact ⟨rfl, rfl⟩
  | 7, _ => exact ⟨rfl, rfl⟩
  | 8, _ => exact ⟨rfl, rfl⟩
  | 9, _ => exact ⟨rfl, rfl⟩
  | 10, h => exact absurd rfl h
  | 11, _ => exact ⟨rfl, rfl⟩
  | 12, _ => exact ⟨rfl, rfl⟩
  | 13, _ => exact ⟨rfl, rfl⟩
  | 14, _ => exact ⟨rfl, rfl⟩
  | n + 15, _ => exact ⟨rfl, rfl⟩
theorem restE_all {un : UN} {x : HV} : ∀ (k j : Nat), restE un x k j = 0 → ∀ i, j ≤ i → i < j + k → stepE un x i = 0 := by
  intro k
  induction k with
  | zero => intro j _ i h1 h2; omega
  | succ k ih =>
    intro j h i h1 h2
    obtain ⟨a, b⟩ := restE_cons h
    by_cases e : i = j
    · subst e; exact a
    · exact ih (j + 1) b i (by omega) (by omega)
theorem check_cab {un : UN} {x : HV} (h : checkH un x = 0) (hi : x.ini = 0) : checkH (cabU un) x = 0 := by
  obtain ⟨h1, h2, h3⟩ := checkH_ok h
  have e1 : unE (cabU un) = unE un := rfl
  have e2 : beginE (cabU un) x = beginE un x := rfl
  unfold checkH
  rw [e1, e2, if_neg (fun z => z h1), if_neg (fun z => z h2)]
  refine restE_of fun j hj => ?_
  by_cases e : j = 10
  · subst e
    exact numE_of (fun _ => by rw [hi]; simp only [Cd.lo, Cd.hi]; omega) (fun _ => hi)
  · rw [(step_cab un x j e).2]; exact restE_all 15 0 h3 j (by omega) (by omega)
theorem restB_split (un : UN) (x : HV) : ∀ (a b j : Nat), restB un x (a + b) j = restB un x a j ++ restB un x b (j + a) := by
  intro a
  induction a with
  | zero => intro b j; simp [restB]
  | succ a ih => intro b j; rw [show a + 1 + b = a + b + 1 by omega, restB, restB, ih b (j + 1), List.append_assoc, show j + 1 + a = j + (a + 1) by omega]
theorem restB_cab (un : UN) (x : HV) : ∀ (k j : Nat), (∀ i, j ≤ i → i < j + k → i ≠ 10) → restB (cabU un) x k j = restB un x k j := by
  intro k
  induction k with
  | zero => intro j _; rfl
  | succ k ih => intro j h; rw [restB, restB, (step_cab un x j (h j (by omega) (by omega))).1, ih (j + 1) (fun i h1 h2 => h i (by omega) (by omega))]
theorem bits_cab (un : UN) (x : HV) (hc : un.p.cab = false) (hi : x.ini = 0) : ∃ A B, bitsH un x = A ++ B ∧ bitsH (cabU un) x = A ++ ((if x.intra = true then [] else [true]) ++ B) := by
  refine ⟨beginB x ++ restB un x 10 0, restB un x 4 11, ?_, ?_⟩
  · unfold bitsH
    rw [show (15 : Nat) = 10 + (1 + 4) from rfl, restB_split, restB_split, List.append_assoc]
    have : restB un x 1 (0 + 10) = [] := by
      show stepB un x 10 ++ [] = []
      simp [stepB, numB, iniH, hc]
    rw [this]; rfl
  · unfold bitsH
    rw [show (15 : Nat) = 10 + (1 + 4) from rfl, restB_split, restB_split, restB_cab un x 10 0 (fun i h1 h2 => by omega), restB_cab un x 4 (0 + 10 + 1) (fun i h1 h2 => by omega), List.append_assoc]
    have : restB (cabU un) x 1 (0 + 10) = if x.intra = true then [] else [true] := by
      show stepB (cabU un) x 10 ++ [] = _
      have e : ueBits 0 = [true] := by decide +kernel
      cases h : x.intra <;> simp [stepB, numB, iniH, cabU, h, hi, cdBits, e]
    rw [this]
theorem andNot_even (h : Int) : bits .andNot .i64 h 1 % 2 = 0 := by
  have key : (BitVec.ofInt 64 h &&& ~~~BitVec.ofInt 64 1).toNat % 2 = 0 := by
    have h1 : (BitVec.ofInt 64 h &&& ~~~BitVec.ofInt 64 1).getLsbD 0 = false := by
      rw [BitVec.getLsbD_and, BitVec.getLsbD_not]
      have : (BitVec.ofInt 64 1).getLsbD 0 = true := by decide
      simp [this]
    have h2 : (BitVec.ofInt 64 h &&& ~~~BitVec.ofInt 64 1).toNat.testBit 0 = false := h1
    rw [Nat.testBit_zero] at h2
    have h3 := of_decide_eq_false h2
    omega
  show IntKind.i64.wrap (((BitVec.ofInt 64 h &&& ~~~BitVec.ofInt 64 1).toNat : Nat) : Int) % 2 = 0
  rw [IntKind.wrap_i64]
  generalize (BitVec.ofInt 64 h &&& ~~~BitVec.ofInt 64 1).toNat = m at *
  omega
theorem andNot_cab (h : Int) : (bits .and .i64 (bits .andNot .i64 h 1) 1 == 1) = false := by
  have e := i64_mask (bits .andNot .i64 h 1) 1 (by decide)
  have e2 := andNot_even h
  rw [beq_eq_false_iff_ne]
  have : bits .and .i64 (bits .andNot .i64 h 1) 1 = bits .andNot .i64 h 1 % 2 := e
  omega
end Go.Proofs.YtjjjfmnhdnajkaaGreatDoor

end
section
set_option maxRecDepth 20000
namespace Go.Proofs.YtjjjfmnhdnajkaaGreatDoor
open Go.RowKit
set_option linter.unusedVariables false
set_option linter.unusedSimpArgs false

/-- A struct is loaded from anywhere: the operation alone. -/
theorem wp_load_at {P : Program} {w : World} {o : Oper} {a : Act} {K : Act → World → Prop} {Q : Exit → Act → World → Prop} (t : TypeId) (x : Operand) (ho : o.op = .load t x) (p : Addr) (cs : List Value)
    (hx : a.eval x = .pointer (some p)) (hl : (Instr.loadAt t (.pointer (some p))).run P w = .ok (.agg cs.toArray) w)
    (h : K (a.put o.dst (.agg cs.toArray)) w) : o.wp P a w K Q := by
  unfold Oper.wp execOp
  simp only [ho, hx]
  simp [hl, Result.andThen]
  exact h
/-- A struct is loaded from anywhere. -/
theorem load_atA {P : Program} {w : World} {ops : Array Oper} {rest : List Oper} {o : Oper} {a : Act} {Q : Exit → Act → World → Prop} (hg : o.guard = none) (t : TypeId) (x : Operand) (ho : o.op = .load t x) (p : Addr) (cs : List Value)
    (hx : a.eval x = .pointer (some p)) (hl : (Instr.loadAt t (.pointer (some p))).run P w = .ok (.agg cs.toArray) w)
    (h : wpList P ops Q rest (a.put o.dst (.agg cs.toArray)) w) : wpList P ops Q (o :: rest) a w := by
  refine wpList_plain hg fun K hK => ?_
  unfold Oper.wp execOp
  simp only [ho, hx]
  simp [hl, Result.andThen]
  exact hK _ _ (by simpa using h)
theorem own_stepA {W w w' : World} {L L' : List Nat} (O : Only [] W w) (HL : ∀ y, y ∈ L → W.heap.size ≤ y) (ho : Only L w w') (hl : ∀ y, y ∈ L' → y ∈ L ∨ w.heap.size ≤ y) : Only [] W w' ∧ ∀ y, y ∈ L' → W.heap.size ≤ y :=
  ⟨O.trans2 ho (fun x hx => .inr (HL x hx)), fun y hy => (hl y hy).elim (HL y) (fun h => Nat.le_trans O.size h)⟩
/-- Strings are compared as lists. -/
theorem toListB_inj {a b : ByteArray} : a.toList = b.toList ↔ a = b :=
  ⟨fun e => by rw [Lib.toList_data, Lib.toList_data] at e; exact ByteArray.ext (Array.toList_inj.1 e), fun e => e ▸ rfl⟩
theorem beq_toListB {a b : ByteArray} {c : Bool} (h : c = true ↔ a = b) : (a.toList == b.toList) = c := by
  cases c
  · rw [beq_eq_false_iff_ne]; intro e; have := h.2 (toListB_inj.1 e); cases this
  · rw [beq_iff_eq]; exact toListB_inj.2 (h.1 rfl)
theorem blk3 (w : World) (ta tb tc : TypeId) (a b c : Array Value) :
    ∃ W, W = ((w.alloc (.cells a ta)).alloc (.cells b tb)).alloc (.cells c tc) ∧ Blk W w.heap.size ta a ∧ Blk W (w.heap.size + 1) tb b ∧ Blk W (w.heap.size + 1 + 1) tc c ∧ Only [] w W := by
  have s1 : (w.alloc (.cells a ta)).heap.size = w.heap.size + 1 := World.size_alloc _ _
  have s2 : ((w.alloc (.cells a ta)).alloc (.cells b tb)).heap.size = w.heap.size + 1 + 1 := by rw [World.size_alloc, s1]
  have b1 := Blk.new w ta a
  have b2 := Blk.new (w.alloc (.cells a ta)) tb b
  have b3 := Blk.new ((w.alloc (.cells a ta)).alloc (.cells b tb)) tc c
  rw [s1] at b2
  rw [s2] at b3
  exact ⟨_, rfl, b1.only (((Only.refl [] _).alloc _).alloc _) (by simp), b2.only ((Only.refl [] _).alloc _) (by simp), b3, ((((Only.refl [] _).alloc _).alloc _).alloc _)⟩
theorem ho_ppsU {w : World} {k : Nat} {T : TypeId} {un : UN} (h : Blk w k T (uL un).toArray) : (Instr.loadAt 24 (.pointer (some ⟨k, 2, none⟩))).run Tryz.prog w = .ok (.agg (pL un.p).toArray) w := ho_pps k 2 un.p w (fun j v hj => h.cell (uL_p un j v hj))
theorem ho_spsU {w : World} {k : Nat} {T : TypeId} {un : UN} (h : Blk w k T (uL un).toArray) : (Instr.loadAt 27 (.pointer (some ⟨k, 12, none⟩))).run Tryz.prog w = .ok (.agg (sL un.s).toArray) w := ho_sps k 12 un.s w (fun j v hj => h.cell (uL_s un j v hj))
theorem ho_hdrB {w : World} {k : Nat} {T : TypeId} {x : HV} {mv kv : Value} (h : Blk w k T (hC x mv kv).toArray) : (Instr.loadAt 34 (.pointer (some ⟨k, 0, none⟩))).run Tryz.prog w = .ok (.agg (hC x mv kv).toArray) w := hl_hdr k x mv kv w (fun j v hj => h.cell (by simpa using hj))
theorem ho_unitB {w : World} {k : Nat} {T : TypeId} {un : UN} (h : Blk w k T (uL un).toArray) : (Instr.loadAt 30 (.pointer (some ⟨k, 0, none⟩))).run Tryz.prog w = .ok (.agg (uL un).toArray) w := hl_unit k un w (fun j v hj => h.cell (by simpa using hj))
/-- What is known of a header that was made. -/
structure Mok (un : UN) (x : HV) : Prop where
  ck : checkH un x = 0
  om : OksM x.mods
  ok : OksM x.marks
  l1 : x.mods.length ≤ 20
  l2 : x.marks.length ≤ 20
  r0 : 0 ≤ un.ref
  q0 : 0 ≤ 26 + un.p.qp + x.qp
  q1 : 26 + un.p.qp + x.qp ≤ 51
  c0 : un.p.cab = false → x.ini = 0
theorem mok_made (un : UN) (n : N8) (x : HV) (r0 : 0 ≤ un.ref) : Mok (madeU un n (bytesN n)) (madeH (madeU un n (bytesN n)) x) := by
  refine ⟨made_ok un n _ x r0, cmdsM_oks _ _ _, cmdsM_oks _ _ _, cmdsM_len _ _ _, cmdsM_len _ _ _, ?_, ?_, ?_, ?_⟩
  · unfold madeU refU; simp only; split <;> omega
  · simp only [madeH]; omega
  · simp only [madeH]; omega
  · intro h; simp only [madeH]; rw [if_neg (fun z => by rw [h] at z; exact absurd z.2 (by decide))]
theorem refs_of {un : UN} {x : HV} (h : checkH un x = 0) : ((if x.intra = true then (0 : Int) else if x.over = true then x.refs else un.p.rf) = 0 ↔ x.intra = true) ∧ 0 ≤ (if x.intra = true then (0 : Int) else if x.over = true then x.refs else un.p.rf) ∧ (if x.intra = true then (0 : Int) else if x.over = true then x.refs else un.p.rf) ≤ 32 := by
  obtain ⟨h1, h2, h3⟩ := checkH_ok h
  obtain ⟨u1, u2, u3, u4⟩ := un_ok h1
  have hr : 1 ≤ un.p.rf ∧ un.p.rf ≤ 32 := by
    unfold okP at u3
    simp only [Bool.and_eq_true] at u3
    exact inB_true u3.1.1.1.1.2
  have h4 : numE x.over x.refs (.ue 1 32) = 0 := restE_all 15 0 h3 4 (by omega) (by omega)
  cases hi : x.intra
  · cases ho : x.over
    · simp; omega
    · rw [ho] at h4
      have := numC_iff.1 (show numC (.ue 1 32) x.refs = 0 from h4)
      simp only [Cd.lo, Cd.hi] at this
      simp; omega
  · simp
theorem agg_u {a b : Array Value} (h : Value.agg a = .agg b) : a = b := by cases h; rfl
end Go.Proofs.YtjjjfmnhdnajkaaGreatDoor

end
section
set_option maxRecDepth 20000
namespace Go.Proofs.YtjjjfmnhdnajkaaGreatDoor
open Go.RowKit
set_option linter.unusedVariables false
set_option linter.unusedSimpArgs false

theorem StL.alls {w : World} {b n : Nat} {L : List Nat} {f : Int → Option SV} {g : Int → Option PV} (h : StL w b L f g n) : AllS f ∧ AllP g := by
  obtain ⟨m1, m2, _, k⟩ := h
  exact ⟨k.a1, k.a2⟩
theorem numB_le {has : Bool} {v : Int} {c : Cd} (k : cdOk c) (h : numE has v c = 0) : (numB has v c).length ≤ 13000 := by
  cases has
  · simp [numB]
  · simp only [numE, if_true] at h
    simp only [numB, if_true]
    have := cdBits_le k h
    omega
theorem flagB_le (has v : Bool) : (flagB has v).length ≤ 1 := by cases has <;> simp [flagB]
theorem lstB_le {has m : Bool} {l : List (Int × Int × Int)} (h : lstE has m l = 0) : (lstB has m l).length ≤ 13000 := by
  cases has
  · simp [lstB]
  · simp only [lstE, if_true] at h
    simp only [lstB, if_true]
    exact listB_le h
theorem stepB_le {un : UN} {x : HV} (hs : okS un.s = true) (hp : okP un.p = true) (j : Nat) (h : stepE un x j = 0) : (stepB un x j).length ≤ 13000 := by
  obtain ⟨k1, k2, k3⟩ := unOk_cd hs hp
  match j, h with
  | 0, h => exact numB_le k1 h
  | 1, h => exact numB_le cd1 h
  | 2, h => exact numB_le k2 h
  | 3, h => exact Nat.le_trans (flagB_le _ _) (by omega)
  | 4, h => exact numB_le cd2 h
  | 5, h => exact Nat.le_trans (flagB_le _ _) (by omega)
  | 6, h => exact lstB_le h
  | 7, h => show (flagB _ _ ++ flagB _ _).length ≤ 13000; rw [List.length_append]; have := flagB_le un.idr x.f0; have := flagB_le un.idr x.f1; omega
  | 8, h => exact Nat.le_trans (flagB_le _ _) (by omega)
  | 9, h => exact lstB_le h
  | 10, h => exact numB_le cd3 h
  | 11, h => exact numB_le k3 h
  | 12, h => exact numB_le cd3 h
  | 13, h => exact numB_le cd4 h
  | 14, h => exact numB_le cd4 h
  | n + 15, h => simp [stepB]
theorem restB_le {un : UN} {x : HV} (hs : okS un.s = true) (hp : okP un.p = true) : ∀ (k j : Nat), restE un x k j = 0 → (restB un x k j).length ≤ k * 13000 := by
  intro k
  induction k with
  | zero => intro j _; simp [restB]
  | succ k ih =>
    intro j h
    obtain ⟨h1, h2⟩ := restE_cons h
    have := stepB_le hs hp j h1
    have := ih (j + 1) h2
    rw [restB, List.length_append]
    omega
theorem bitsH_le {un : UN} {x : HV} (h : checkH un x = 0) : (bitsH un x).length ≤ 200000 := by
  obtain ⟨h1, h2, h3⟩ := checkH_ok h
  obtain ⟨u1, u2, u3, u4⟩ := un_ok h1
  obtain ⟨b1, b2, b3, b4, b5, b6, b7⟩ := begin_ok u2 u3 h2
  have := len_beginB x b1.1 b2 b6 b7
  have := restB_le u2 u3 15 0 h3
  unfold bitsH
  rw [List.length_append]
  omega
theorem bitAt_leftH (s t : ByteArray) (i : Nat) (h : i < 8 * s.size) : bitAt (s ++ t) i = bitAt s i := by
  unfold bitAt
  have e : (s ++ t).data = s.data ++ t.data := by simp
  have hi : i / 8 < s.data.size := by show i / 8 < s.size; omega
  rw [e, Array.getD_eq_getD_getElem?, Array.getElem?_append_left hi, ← Array.getD_eq_getD_getElem?]
theorem begins_H (l : List Bool) (t : ByteArray) : Begins (pack l ++ t) 0 l := by
  have h : Begins (pack l) 0 l := begins_of ⟨[], by simp⟩
  have hz : (pack l ++ t).size = (pack l).size + t.size := ByteArray.size_append
  refine ⟨by have := h.1; omega, fun j hj => ?_⟩
  rw [bitAt_leftH (pack l) t (0 + j) (by have := h.1; omega)]
  exact h.2 j hj
theorem getR_store (un : UN) (h : unE un = 0) : getR (upd (fun _ => none) un.s.id un.s) (upd (fun _ => none) un.p.id un.p) un.p.id = (un.p, un.s, 0) := by
  obtain ⟨u1, u2, u3, u4⟩ := un_ok h
  have := (okP_id u3).1
  unfold getR
  rw [if_neg (by omega), upd_same]
  simp only [u4, upd_same]
end Go.Proofs.YtjjjfmnhdnajkaaGreatDoor

end

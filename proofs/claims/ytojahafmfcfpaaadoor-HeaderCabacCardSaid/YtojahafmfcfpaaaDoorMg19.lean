/- The laws' helpers: a unit in memory, the bits of a header, a remainder. -/
/- The laws' helpers: the reference's Put for any header; headers copied. -/
/- The laws' helpers: headers whose lists are cut. -/
import Derived.Test.YtojahafmfcfpaaaDoorMg18
import Derived.Test.YtojahafmfcfpaaaDoorMg14
import Derived.Test.YtojahafmfcfpaaaDoorSeE
import Derived.Test.YtojahafmfcfpaaaDoorHdY
import Derived.Test.YtojahafmfcfpaaaDoorMg5
import Derived.Test.YtojahafmfcfpaaaDoorQheld
section
set_option maxRecDepth 20000
namespace Go.Proofs.YtojahafmfcfpaaaDoor
open Go.RowKit
set_option linter.unusedVariables false
set_option linter.unusedSimpArgs false

/-- A struct is loaded out of the middle of a block. -/
theorem load_off {P : Program} {w : World} {ops : Array Oper} {rest : List Oper} {o : Oper} {a : Act} {Q : Exit → Act → World → Prop} (hg : o.guard = none) (t : TypeId) (x : Operand) (ho : o.op = .load t x) (k off : Nat) (T : TypeId) (cs : List Value) (A : Array Value)
    (hx : a.eval x = .pointer (some ⟨k, off, none⟩)) (hB : Blk w k T A) (hA : ∀ (j : Nat) (v : Value), cs[j]? = some v → A[off + j]? = some v)
    (hl : ∀ w, (∀ j v, cs[j]? = some v → w.cell? ⟨k, off + j, none⟩ = some v) → (Instr.loadAt t (.pointer (some ⟨k, off, none⟩))).run P w = .ok (.agg cs.toArray) w)
    (h : wpList P ops Q rest (a.put o.dst (.agg cs.toArray)) w) : wpList P ops Q (o :: rest) a w := by
  refine wpList_plain hg fun K hK => ?_
  have hl' := hl w (fun j v hj => hB.cell (hA j v hj))
  unfold Oper.wp execOp
  simp only [ho, hx]
  simp [hl', Result.andThen]
  exact hK _ _ (by simpa using h)
theorem add_off (k off : Nat) (j : Nat) : (⟨k, off, none⟩ : Addr).add j = ⟨k, off + j, none⟩ := by cases j <;> simp [Addr.add]
theorem ho_pps (k off : Nat) (x : PV) (w : World) (hc : ∀ j v, (pL x)[j]? = some v → w.cell? ⟨k, off + j, none⟩ = some v) : (Instr.loadAt 27 (.pointer (some ⟨k, off, none⟩))).run Tryd.prog w = .ok (.agg (pL x).toArray) w := by
  have hl := run_loadCells_list (P := Tryd.prog) w ⟨k, off, none⟩ (pL x) (fun j v hj => by rw [add_off]; exact hc j v hj)
  rw [show (pL x).length = 10 from rfl] at hl
  simp only [Instr.loadAt, Instr.sureAddr, Sem.run_bind, Sem.run_pure, Result.andThen_ok, loadVar]
  simp [hl]
theorem ho_sps (k off : Nat) (x : SV) (w : World) (hc : ∀ j v, (sL x)[j]? = some v → w.cell? ⟨k, off + j, none⟩ = some v) : (Instr.loadAt 29 (.pointer (some ⟨k, off, none⟩))).run Tryd.prog w = .ok (.agg (sL x).toArray) w := by
  have hl := run_loadCells_list (P := Tryd.prog) w ⟨k, off, none⟩ (sL x) (fun j v hj => by rw [add_off]; exact hc j v hj)
  rw [show (sL x).length = 9 from rfl] at hl
  simp only [Instr.loadAt, Instr.sureAddr, Sem.run_bind, Sem.run_pure, Result.andThen_ok, loadVar]
  simp [hl]
/-- A unit's cells. -/
def uL (un : UN) : List Value := [.int .u8 un.ref, .bool un.idr] ++ (pL un.p ++ sL un.s)
def uV (un : UN) : Value := .agg (uL un).toArray
theorem uL_p (un : UN) : ∀ (j : Nat) (v : Value), (pL un.p)[j]? = some v → (uL un).toArray[2 + j]? = some v := fun j v h => by
  unfold uL
  rw [List.getElem?_toArray, List.getElem?_append_right (by simp), show 2 + j - [Value.int .u8 un.ref, .bool un.idr].length = j from by simp, List.getElem?_append_left (List.getElem?_eq_some_iff.1 h).1]
  exact h
theorem uL_s (un : UN) : ∀ (j : Nat) (v : Value), (sL un.s)[j]? = some v → (uL un).toArray[12 + j]? = some v := fun j v h => by
  unfold uL
  have e : (pL un.p).length = 10 := rfl
  rw [List.getElem?_toArray, List.getElem?_append_right (by simp; omega), show 12 + j - [Value.int .u8 un.ref, .bool un.idr].length = 10 + j from by simp; omega, List.getElem?_append_right (by omega), show 10 + j - (pL un.p).length = j by omega]
  exact h
/-- A header's bits, or nothing. -/
def hBits (un : UN) (x : HV) : List Bool := if checkH un x = 0 then bitsH un x else []
theorem putH_yes {un : UN} {x : HV} {L : List Bool} (h : checkH un x = 0) : putH un x L = (0, L ++ bitsH un x) := by
  unfold putH; rw [if_neg (fun k => k h)]
theorem putH_no {un : UN} {x : HV} {L : List Bool} (h : checkH un x ≠ 0) : putH un x L = (checkH un x, L) := by
  unfold putH; rw [if_pos h]
set_option maxHeartbeats 4000000 in
theorem hbits_any (x : HV) (un : UN) (mv kv : Value) (w : World) (hVr : Vars w) (h1 : HoldsM w mv x.mods) (h2 : HoldsM w kv x.marks) (o1 : OksM x.mods) (o2 : OksM x.marks) (r0 : 0 ≤ un.ref) :
    Calls Tryd.prog 6 #[hV x mv kv, uV un] w fun e w' => e = .returned (.string (chars (hBits un x))) ∧ Only [] w w' := by
  obtain ⟨ma, mc, hmv, _⟩ := id h1
  obtain ⟨ka, kc, hkv, _⟩ := id h2
  subst hmv hkv
  obtain ⟨BB0, hBB0⟩ : ∃ R, R = hBits un x := ⟨_, rfl⟩
  rw [← hBB0]
  have BE := hid hBB0
  clear hBB0
  have HV := hid hVr
  have HH := hid (And.intro h1 h2)
  have WA := hid (fun w => write_any w)
  have PT := hid (fun b sv w (hVr : Vars w) h1 h2 hw hG a1 a2 => hput_any x un (.slice ma x.mods.length mc) (.slice ka x.marks.length kc) b sv [] w hVr h1 h2 o1 o2 r0 hw hG a1 a2 (by simp))
  have AF := hid (fun b (hb : w.heap.size ≤ b) => And.intro (aside_fresh (sv := .slice none 0 0) h1 hb (by simp [ownOf, Value.ownBlock])) (aside_fresh (sv := .slice none 0 0) h2 hb (by simp [ownOf, Value.ownBlock])))
  have BB := hid (fun b sv l w h => bits_any b sv l w h)
  obtain ⟨W1, hW1⟩ : ∃ W1, W1 = (w.alloc (.cells (hC x (.slice ma x.mods.length mc) (.slice ka x.marks.length kc)).toArray 25)).alloc (.cells (uL un).toArray 31) := ⟨_, rfl⟩
  have o1' : Only [] w W1 := hW1 ▸ (((Only.refl [] w).alloc _).alloc _)
  have bX : Blk W1 w.heap.size 25 (hC x (.slice ma x.mods.length mc) (.slice ka x.marks.length kc)).toArray := hW1 ▸ ((Blk.new w _ _).only ((Only.refl [] _).alloc _) (by simp))
  have bU : Blk W1 (w.heap.size + 1) 31 (uL un).toArray := by
    have := Blk.new (w.alloc (.cells (hC x (.slice ma x.mods.length mc) (.slice ka x.marks.length kc)).toArray 25)) 31 (uL un).toArray
    rw [World.size_alloc] at this
    exact hW1 ▸ this
  have O1 := hid o1'
  have BX := hid (fun w' (o : Only [] W1 w') => bX.only o (by simp))
  have BU := hid (fun w' (o : Only [] W1 w') => bU.only o (by simp))
  clear o1' bX bU h1 h2 hVr o1 o2 r0
  simp only [hV, uV, hC, uL, pL, sL, List.cons_append, List.nil_append] at hW1 ⊢
  go_enter Tryd.func6, Tryd.ntmps6
  go_upto_region 1 with (fail)
  rw [← hW1]
  clear hW1
  go_wp2_with fail
  refine (WA.out W1).mono ?_
  rintro e w1 ⟨rfl, hW, hO⟩
  have R1 := hid hW
  have OW := hid hO
  clear hW hO WA
  have u0 := (BU.out _ OW.out).cell (i := 0) (v := .int .u8 un.ref) rfl
  have u1 := (BU.out _ OW.out).cell (i := 1) (v := .bool un.idr) rfl
  go_wp2_with (first
    | (refine load_blk rfl 25 _ rfl w.heap.size _ (hC x (.slice ma x.mods.length mc) (.slice ka x.marks.length kc)) rfl (BX.out _ OW.out) (hl_hdr _ _ _ _) ?_)
    | (refine load_off rfl 27 _ rfl (w.heap.size + 1) 2 _ (pL un.p) _ rfl (BU.out _ OW.out) (uL_p un) (ho_pps _ _ _) ?_)
    | (refine load_off rfl 29 _ rfl (w.heap.size + 1) 12 _ (sL un.s) _ rfl (BU.out _ OW.out) (uL_s un) (ho_sps _ _ _) ?_))
  have LT := hid (show w.heap.size ≤ W1.heap.size from O1.out.size)
  have G1 := hid (show ∀ m, kindG m ∉ W1.heap.size :: ownOf (.slice none 0 0) from fun m hm => by
    have := HV.out.lt m
    have := LT.out
    simp [ownOf, Value.ownBlock] at hm
    omega)
  have OO := hid (O1.out.trans OW.out)
  by_cases hc : checkH un x = 0
  · have bz := hid (show BB0 = bitsH un x from by rw [BE.out]; unfold hBits; rw [if_pos hc])
    rw [putH_yes hc, List.nil_append] at PT
    clear hc
    refine (PT.out _ _ w1 (HV.out.only0 OO.out) (HH.out.1.only0 OO.out) (HH.out.2.only0 OO.out) R1.out G1.out (AF.out _ LT.out).1 (AF.out _ LT.out).2).mono ?_
    rintro e w2 ⟨rfl, sv', hP⟩
    have P2 := hid hP
    clear hP u0 u1
    go_wp2_with fail
    refine (BB.out _ _ _ w2 P2.out.wr).mono ?_
    rintro e w3 ⟨rfl, hO3⟩
    go_wp2_with fail
    go_ret
    refine ⟨show Ending.returned (.string (chars (bitsH un x))) = _ from by rw [bz.out], (OO.out.trans2 P2.out.only (fun y hy => .inr (by have := LT.out; simp [ownOf, Value.ownBlock] at hy; omega))).trans hO3⟩
  · have bz := hid (show BB0 = [] from by rw [BE.out]; unfold hBits; rw [if_neg hc])
    clear BE
    rw [putH_no hc] at PT
    have K := hid hc
    generalize checkH un x = k at *
    have kz : (k != 0) = true := bne_iff_ne.2 hc
    clear hc
    refine (PT.out _ _ w1 (HV.out.only0 OO.out) (HH.out.1.only0 OO.out) (HH.out.2.only0 OO.out) R1.out G1.out (AF.out _ LT.out).1 (AF.out _ LT.out).2).mono ?_
    rintro e w2 ⟨rfl, sv', hP⟩
    have P2 := hid hP
    clear hP u0 u1
    go_wp2_with fail
    go_ret
    exact ⟨by rw [bz.out]; rfl, OO.out.trans2 P2.out.only (fun y hy => .inr (by have := LT.out; simp [ownOf, Value.ownBlock] at hy; omega))⟩
theorem emod_two (a m : Int) (h : 0 < m) : Int.tmod (Int.tmod a m + m) m = a % m := by
  have h2 : -m < Int.tmod a m := by have := Int.lt_tmod_of_pos a h; omega
  rw [Int.tmod_eq_emod_of_nonneg (by omega), Int.add_emod_right, Int.tmod_def, Int.sub_eq_add_neg, ← Int.mul_neg, Int.add_mul_emod_self_left]
theorem hmod_any (a m : Int) (h : 0 < m) (h2 : m ≤ 4611686018427387904) (w : World) : Calls Tryd.prog 11 #[.int .i64 a, .int .i64 m] w fun e w' => e = .returned (.int .i64 (a % m)) ∧ w' = w := by
  have b1 := Int.tmod_lt_of_pos a h
  have b2 := Int.lt_tmod_of_pos a h
  have e := emod_two a m h
  have e0 : (m == 0) = false := by rw [beq_eq_false_iff_ne]; omega
  have e1 : ¬ m = 0 := by omega
  have g1 : IntKind.i64.wrap (Int.tmod a m) = Int.tmod a m := IntWalk.i64_in _ ⟨by omega, by omega⟩
  have g2 : IntKind.i64.wrap (Int.tmod a m + m) = Int.tmod a m + m := IntWalk.i64_in _ ⟨by omega, by omega⟩
  have b3 := Int.emod_nonneg a e1
  have b4 := Int.emod_lt_of_pos a h
  have g3 : IntKind.i64.wrap (a % m) = a % m := IntWalk.i64_in _ ⟨by omega, by omega⟩
  obtain ⟨t, ht⟩ : ∃ t, t = Int.tmod a m := ⟨_, rfl⟩
  rw [← ht] at b1 b2 e g1 g2
  obtain ⟨r, hr⟩ : ∃ r, r = a % m := ⟨_, rfl⟩
  rw [← hr] at e g3 b3 b4 ⊢
  have g4 : a.tmod m = t := ht.symm
  clear ht hr b1 b2 b3 b4
  go_enter Tryd.func11, Tryd.ntmps11
  go_wp2_with fail
  go_ret
  exact ⟨rfl, rfl⟩
end Go.Proofs.YtojahafmfcfpaaaDoor

end
section
set_option maxRecDepth 20000
namespace Go.Proofs.YtojahafmfcfpaaaDoor
open Go.RowKit
set_option linter.unusedVariables false
set_option linter.unusedSimpArgs false

theorem holdsM_slice {w : World} {v : Value} {l : List (Int × Int × Int)} (h : HoldsM w v l) : ∃ a c, v = .slice a l.length c := by obtain ⟨a, c, e, _⟩ := h; exact ⟨a, c, e⟩
end Go.Proofs.YtojahafmfcfpaaaDoor

end
section
set_option maxRecDepth 20000
namespace Go.Proofs.YtojahafmfcfpaaaDoor
open Go.RowKit
set_option linter.unusedVariables false
set_option linter.unusedSimpArgs false

theorem take_min80 (l : List (Int × Int × Int)) (n : Nat) (hn : n = min l.length 80) : l.take n = l.take 80 := by
  subst hn
  rw [Nat.min_comm, ← List.take_take, List.take_length]
end Go.Proofs.YtojahafmfcfpaaaDoor

end

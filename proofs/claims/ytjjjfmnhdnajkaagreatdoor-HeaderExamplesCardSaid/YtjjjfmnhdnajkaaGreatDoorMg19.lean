/- The laws' helpers: a unit in memory, the bits of a header, a remainder. -/
/- The laws' helpers: the reference's Put for any header; headers copied. -/
/- The laws' helpers: headers whose lists are cut. -/
import Derived.Test.YtjjjfmnhdnajkaaGreatDoorMg18
import Derived.Test.YtjjjfmnhdnajkaaGreatDoorMg14
import Derived.Test.YtjjjfmnhdnajkaaGreatDoorSeE
import Derived.Test.YtjjjfmnhdnajkaaGreatDoorHdY
import Derived.Test.YtjjjfmnhdnajkaaGreatDoorMg5
import Derived.Test.YtjjjfmnhdnajkaaGreatDoorQheld
section
set_option maxRecDepth 20000
namespace Go.Proofs.YtjjjfmnhdnajkaaGreatDoor
open Go.RowKit
set_option linter.unusedVariables false
set_option linter.unusedSimpArgs false

/-- A struct is loaded out of the middle of a block. -/
theorem load_off {P : Program} {w : World} {ops : Array Oper} {rest : List Oper} {o : Oper} {a : Act} {Q : Exit → Act → World → Prop} (hg : o.guard = none) (t : TypeId) (x : Operand) (ho : o.op = .load t x) (k off : Nat) (T : TypeId) (cs : List Value) (A : Array Value)
    (hx : a.eval x = .pointer (some ⟨k, off, none⟩)) (hB : Blk w k T A) (hA : ∀ (j : Nat) (v : Value), cs[j]? = some v → A[off + j]? = some v)
    (hl : ∀ w, (∀ j v, cs[j]? = some v → w.cell? ⟨k, off + j, none⟩ = some v) → (Instr.loadAt t (.pointer (some ⟨k, off, none⟩))).run P w = .ok (.agg cs.toArray) w)
    (h : wpList P ops Q rest (a.put o.dst (.agg cs.toArray)) w) : wpList P ops Q (o :: rest) a w := by
  refine wpList_plain hg fun K hK => ?_
  have hl' := hl w (fun j v hj => hB.cell (hA j v hj))
  unfold Oper.wp execOp
  simp only [ho, hx]
  simp [hl', Result.andThen]
  exact hK _ _ (by simpa using h)
theorem add_off (k off : Nat) (j : Nat) : (⟨k, off, none⟩ : Addr).add j = ⟨k, off + j, none⟩ := by cases j <;> simp [Addr.add]
theorem ho_pps (k off : Nat) (x : PV) (w : World) (hc : ∀ j v, (pL x)[j]? = some v → w.cell? ⟨k, off + j, none⟩ = some v) : (Instr.loadAt 24 (.pointer (some ⟨k, off, none⟩))).run Tryz.prog w = .ok (.agg (pL x).toArray) w := by
  have hl := run_loadCells_list (P := Tryz.prog) w ⟨k, off, none⟩ (pL x) (fun j v hj => by rw [add_off]; exact hc j v hj)
  rw [show (pL x).length = 10 from rfl] at hl
  simp only [Instr.loadAt, Instr.sureAddr, Sem.run_bind, Sem.run_pure, Result.andThen_ok, loadVar]
  simp [hl]
theorem ho_sps (k off : Nat) (x : SV) (w : World) (hc : ∀ j v, (sL x)[j]? = some v → w.cell? ⟨k, off + j, none⟩ = some v) : (Instr.loadAt 27 (.pointer (some ⟨k, off, none⟩))).run Tryz.prog w = .ok (.agg (sL x).toArray) w := by
  have hl := run_loadCells_list (P := Tryz.prog) w ⟨k, off, none⟩ (sL x) (fun j v hj => by rw [add_off]; exact hc j v hj)
  rw [show (sL x).length = 9 from rfl] at hl
  simp only [Instr.loadAt, Instr.sureAddr, Sem.run_bind, Sem.run_pure, Result.andThen_ok, loadVar]
  simp [hl]
/-- A unit's cells. -/
def uL (un : UN) : List Value := [.int .u8 un.ref, .bool un.idr] ++ (pL un.p ++ sL un.s)
def uV (un : UN) : Value := .agg (uL un).toArray
theorem uL_p (un : UN) : ∀ (j : Nat) (v : Value), (pL un.p)[j]? = some v → (uL un).toArray[2 + j]? = some v := fun j v h => by
  unfold uL
  rw [List.getElem?_toArray, List.getElem?_append_right (by simp), show 2 + j - [Value.int .u8 un.ref, .bool un.idr].length = j from by simp, List.getElem?_append_left (List.getElem?_eq_some_iff.1 h).1]
  exact h
theorem uL_s (un : UN) : ∀ (j : Nat) (v : Value), (sL un.s)[j]? = some v → (uL un).toArray[12 + j]? = some v := fun j v h => by
  unfold uL
  have e : (pL un.p).length = 10 := rfl
  rw [List.getElem?_toArray, List.getElem?_append_right (by simp; omega), show 12 + j - [Value.int .u8 un.ref, .bool un.idr].length = 10 + j from by simp; omega, List.getElem?_append_right (by omega), show 10 + j - (pL un.p).length = j by omega]
  exact h
/-- A header's bits, or nothing. -/
def hBits (un : UN) (x : HV) : List Bool := if checkH un x = 0 then bitsH un x else []
theorem putH_yes {un : UN} {x : HV} {L : List Bool} (h : checkH un x = 0) : putH un x L = (0, L ++ bitsH un x) := by
  unfold putH; rw [if_neg (fun k => k h)]
theorem putH_no {un : UN} {x : HV} {L : List Bool} (h : checkH un x ≠ 0) : putH un x L = (checkH un x, L) := by
  unfold putH; rw [if_pos h]
set_option maxHeartbeats 4000000 in
theorem hbits_any (x : HV) (un : UN) (mv kv : Value) (w : World) (hVr : Vars w) (h1 : HoldsM w mv x.mods) (h2 : HoldsM w kv x.marks) (o1 : OksM x.mods) (o2 : OksM x.marks) (r0 : 0 ≤ un.ref) :
    Calls Tryz.prog 44 #[hV x mv kv, uV un] w fun e w' => e = .returned (.string (chars (hBits un x))) ∧ Only [] w w' := by
  obtain ⟨ma, mc, hmv, _⟩ := id h1
  obtain ⟨ka, kc, hkv, _⟩ := id h2
  subst hmv hkv
  obtain ⟨BB0, hBB0⟩ : ∃ R, R = hBits un x := ⟨_, rfl⟩
  rw [← hBB0]
  have BE := hid hBB0
  clear hBB0
  have HV := hid hVr
  have HH := hid (And.intro h1 h2)
  have WA := hid (fun w => write_any w)
  have PT := hid (fun b sv w (hVr : Vars w) h1 h2 hw hG a1 a2 => hput_any x un (.slice ma x.mods.length mc) (.slice ka x.marks.length kc) b sv [] w hVr h1 h2 o1 o2 r0 hw hG a1 a2 (by simp))
  have AF := hid (fun b (hb : w.heap.size ≤ b) => And.intro (aside_fresh (sv := .slice none 0 0) h1 hb (by simp [ownOf, Value.ownBlock])) (aside_fresh (sv := .slice none 0 0) h2 hb (by simp [ownOf, Value.ownBlock])))
  have BB := hid (fun b sv l w h => bits_any b sv l w h)
  obtain ⟨W1, hW1⟩ : ∃ W1, W1 = (w.alloc (.cells (hC x (.slice ma x.mods.length mc) (.slice ka x.marks.length kc)).toArray 34)).alloc (.cells (uL un).toArray 30) := ⟨_, rfl⟩
  have o1' : Only [] w W1 := hW1 ▸ (((Only.refl [] w).alloc _).alloc _)
  have bX : Blk W1 w.heap.size 34 (hC x (.slice ma x.mods.length mc) (.slice ka x.marks.length kc)).toArray := hW1 ▸ ((Blk.new w _ _).only ((Only.refl [] _).alloc _) (by simp))
  have bU : Blk W1 (w.heap.size + 1) 30 (uL un).toArray := by
    have := Blk.new (w.alloc (.cells (hC x (.slice ma x.mods.length mc) (.slice ka x.marks.length kc)).toArray 34)) 30 (uL un).toArray
    rw [World.size_alloc] at this
    exact hW1 ▸ this
  have O1 := hid o1'
  have BX := hid (fun w' (o : Only [] W1 w') => bX.only o (by simp))
  have BU := hid (fun w' (o : Only [] W1 w') => bU.only o (by simp))
  clear o1' bX bU h1 h2 hVr o1 o2 r0
  simp only [hV, uV, hC, uL, pL, sL, List.cons_append, List.nil_append] at hW1 ⊢
  go_enter Tryz.func44, Tryz.ntmps44
  go_upto_region 1 with (fail)
  rw [← hW1]
  clear hW1
  go_wp2_with fail
  refine (WA.out W1).mono ?_
  rintro e w1 ⟨rfl, hW, hO⟩
  have R1 := hid hW
  have OW := hid hO
  clear hW hO WA
  have u0 := (BU.out _ OW.out).cell (i := 0) (v := .int .u8 un.ref) rfl
  have u1 := (BU.out _ OW.out).cell (i := 1) (v := .bool un.idr) rfl
  go_wp2_with (first
    | (refine load_blk rfl 34 _ rfl w.heap.size _ (hC x (.slice ma x.mods.length mc) (.slice ka x.marks.length kc)) rfl (BX.out _ OW.out) (hl_hdr _ _ _ _) ?_)
    | (refine load_off rfl 24 _ rfl (w.heap.size + 1) 2 _ (pL un.p) _ rfl (BU.out _ OW.out) (uL_p un) (ho_pps _ _ _) ?_)
    | (refine load_off rfl 27 _ rfl (w.heap.size + 1) 12 _ (sL un.s) _ rfl (BU.out _ OW.out) (uL_s un) (ho_sps _ _ _) ?_))
  have LT := hid (show w.heap.size ≤ W1.heap.size from O1.out.size)
  have G1 := hid (show ∀ m, kindG m ∉ W1.heap.size :: ownOf (.slice none 0 0) from fun m hm => by
    have := HV.out.lt m
    have := LT.out
    simp [ownOf, Value.ownBlock] at hm
    omega)
  have OO := hid (O1.out.trans OW.out)
  by_cases hc : checkH un x = 0
  · have bz := hid (show BB0 = bitsH un x from by rw [BE.out]; unfold hBits; rw [if_pos hc])
    rw [putH_yes hc, List.nil_append] at PT
    clear hc
    refine (PT.out _ _ w1 (HV.out.only0 OO.out) (HH.out.1.only0 OO.out) (HH.out.2.only0 OO.out) R1.out G1.out (AF.out _ LT.out).1 (AF.out _ LT.out).2).mono ?_
    rintro e w2 ⟨rfl, sv', hP⟩
    have P2 := hid hP
    clear hP u0 u1
    go_wp2_with fail
    refine (BB.out _ _ _ w2 P2.out.wr).mono ?_
    rintro e w3 ⟨rfl, hO3⟩
    go_wp2_with fail
    go_ret
    refine ⟨show Ending.returned (.string (chars (bitsH un x))) = _ from by rw [bz.out], (OO.out.trans2 P2.out.only (fun y hy => .inr (by have := LT.out; simp [ownOf, Value.ownBlock] at hy; omega))).trans hO3⟩
  · have bz := hid (show BB0 = [] from by rw [BE.out]; unfold hBits; rw [if_neg hc])
    clear BE
    rw [putH_no hc] at PT
    have K := hid hc
    generalize checkH un x = k at *
    have kz : (k != 0) = true := bne_iff_ne.2 hc
    clear hc
    refine (PT.out _ _ w1 (HV.out.only0 OO.out) (HH.out.1.only0 OO.out) (HH.out.2.only0 OO.out) R1.out G1.out (AF.out _ LT.out).1 (AF.out _ LT.out).2).mono ?_
    rintro e w2 ⟨rfl, sv', hP⟩
    have P2 := hid hP
    clear hP u0 u1
    go_wp2_with fail
    go_ret
    exact ⟨by rw [bz.out]; rfl, OO.out.trans2 P2.out.only (fun y hy => .inr (by have := LT.out; simp [ownOf, Value.ownBlock] at hy; omega))⟩
theorem emod_two (a m : Int) (h : 0 < m) : Int.tmod (Int.tmod a m + m) m = a % m := by
  have h2 : -m < Int.tmod a m := by have := Int.lt_tmod_of_pos a h; omega
  rw [Int.tmod_eq_emod_of_nonneg (by omega), Int.add_emod_right, Int.tmod_def, Int.sub_eq_add_neg, ← Int.mul_neg, Int.add_mul_emod_self_left]
end Go.Proofs.YtjjjfmnhdnajkaaGreatDoor

end
section
set_option maxRecDepth 20000
namespace Go.Proofs.YtjjjfmnhdnajkaaGreatDoor
open Go.RowKit
set_option linter.unusedVariables false
set_option linter.unusedSimpArgs false

set_option maxRecDepth 100000 in
set_option maxHeartbeats 4000000 in
theorem rhput_no (x : HV) (un : UN) (ma ka : Option Addr) (mc kc b : Nat) (w : World) (h1 : HoldsM w (.slice ma x.mods.length mc) x.mods) (h2 : HoldsM w (.slice ka x.marks.length kc) x.marks) (o1 : OksM x.mods) (o2 : OksM x.marks) (r0 : 0 ≤ un.ref) (q0 : -9223372036854775808 ≤ x.qp) (q1 : x.qp ≤ 9223372036854775807) (hC0 : checkH un x ≠ 0) :
    Calls Tryz.prog 26 #[.pointer (some ⟨b, 0, none⟩), hV x (.slice ma x.mods.length mc) (.slice ka x.marks.length kc), .int .u8 un.ref, .bool un.idr, pV un.p, sV un.s] w fun e w' => e = .returned (.int .i64 (checkH un x)) ∧ Only [] w w' := by
  have O1 := hid ((((Only.refl [] w).alloc (.cells (hC x (.slice ma x.mods.length mc) (.slice ka x.marks.length kc)).toArray 34)).alloc (.cells (pL un.p).toArray 24)).alloc (.cells (sL un.s).toArray 27))
  obtain ⟨W1, hW1⟩ : ∃ W1, W1 = ((w.alloc (.cells (hC x (.slice ma x.mods.length mc) (.slice ka x.marks.length kc)).toArray 34)).alloc (.cells (pL un.p).toArray 24)).alloc (.cells (sL un.s).toArray 27) := ⟨_, rfl⟩
  have bX : Blk W1 w.heap.size 34 (hC x (.slice ma x.mods.length mc) (.slice ka x.marks.length kc)).toArray := hW1 ▸ ((Blk.new w _ _).only (((Only.refl [] _).alloc _).alloc _) (by simp))
  have bP : Blk W1 (w.heap.size + 1) 24 (pL un.p).toArray := by
    have := (Blk.new (w.alloc (.cells (hC x (.slice ma x.mods.length mc) (.slice ka x.marks.length kc)).toArray 34)) 24 (pL un.p).toArray).only ((Only.refl [] _).alloc (.cells (sL un.s).toArray 27)) (by simp)
    rw [World.size_alloc] at this
    exact hW1 ▸ this
  have bS : Blk W1 (w.heap.size + 1 + 1) 27 (sL un.s).toArray := by
    have := Blk.new ((w.alloc (.cells (hC x (.slice ma x.mods.length mc) (.slice ka x.marks.length kc)).toArray 34)).alloc (.cells (pL un.p).toArray 24)) 27 (sL un.s).toArray
    rw [World.size_alloc, World.size_alloc] at this
    exact hW1 ▸ this
  rw [← hW1] at O1
  have CK := hid (rhcheck_any x un _ _ W1 (h1.only0 O1.out) (h2.only0 O1.out) o1 o2 r0 q0 q1)
  obtain ⟨k, hk⟩ : ∃ k, k = checkH un x := ⟨_, rfl⟩
  rw [← hk] at CK hC0 ⊢
  have kz : (k != 0) = true := bne_iff_ne.2 hC0
  have BX1 := hid bX
  have BP1 := hid bP
  have BS1 := hid bS
  clear hC0 h1 h2 o1 o2 bX bP bS q0 q1 r0 hk
  simp only [hV, hC] at hW1 CK ⊢
  simp only [pL, sL] at hW1
  go_enter Tryz.func26, Tryz.ntmps26
  go_upto_region 3 with (fail)
  rw [← hW1]
  clear hW1
  go_wp2_with (first
    | (refine load_blk rfl 34 _ rfl w.heap.size _ (hC x (.slice ma x.mods.length mc) (.slice ka x.marks.length kc)) rfl BX1.out (hl_hdr _ _ _ _) ?_)
    | (refine load_blk rfl 24 _ rfl (w.heap.size + 1) _ (pL un.p) rfl BP1.out (hl_pps _ _) ?_)
    | (refine load_blk rfl 27 _ rfl (w.heap.size + 1 + 1) _ (sL un.s) rfl BS1.out (hl_sps _ _) ?_))
  refine CK.out.mono ?_
  rintro e W2 ⟨rfl, oC⟩
  go_wp2_with fail
  go_ret
  exact ⟨rfl, O1.out.trans oC⟩
theorem rhput_any (x : HV) (un : UN) (mv kv : Value) (b : Nat) (sv : Value) (L : List Bool) (w : World) (h1 : HoldsM w mv x.mods) (h2 : HoldsM w kv x.marks) (o1 : OksM x.mods) (o2 : OksM x.marks) (r0 : 0 ≤ un.ref) (q0 : -9223372036854775808 ≤ x.qp) (q1 : x.qp ≤ 9223372036854775807)
    (hw : RWr w b sv L) (a1 : Aside mv x.mods b sv) (a2 : Aside kv x.marks b sv) (hL : L.length ≤ 90000) :
    Calls Tryz.prog 26 #[.pointer (some ⟨b, 0, none⟩), hV x mv kv, .int .u8 un.ref, .bool un.idr, pV un.p, sV un.s] w fun e w' => e = .returned (.int .i64 (putH un x L).1) ∧ ∃ sv', RPut w w' b sv sv' (putH un x L).2 := by
  obtain ⟨ma, mc, hmv, _⟩ := id h1
  obtain ⟨ka, kc, hkv, _⟩ := id h2
  subst hmv hkv
  by_cases hc : checkH un x = 0
  · rw [putH_yes hc]
    exact rhput_yes x un ma ka mc kc b sv L w h1 h2 o1 o2 r0 q0 q1 hw a1 a2 hL hc
  · rw [putH_no hc]
    exact (rhput_no x un ma ka mc kc b w h1 h2 o1 o2 r0 q0 q1 hc).mono fun e w' ⟨he, ho⟩ => ⟨he, sv, hw.only ho (by simp) (by simp), fun g hg => .inl hg, ho.mono (by simp)⟩
theorem holdsM_slice {w : World} {v : Value} {l : List (Int × Int × Int)} (h : HoldsM w v l) : ∃ a c, v = .slice a l.length c := by obtain ⟨a, c, e, _⟩ := h; exact ⟨a, c, e⟩
set_option maxRecDepth 100000 in
set_option maxHeartbeats 4000000 in
theorem copyh_any (x : HV) (mv kv : Value) (w : World) (h1 : HoldsM w mv x.mods) (h2 : HoldsM w kv x.marks) (l1 : x.mods.length ≤ 1000000) (l2 : x.marks.length ≤ 1000000) :
    Calls Tryz.prog 16 #[hV x mv kv] w fun e w' => ∃ mv' kv', e = .returned (hV x mv' kv') ∧ HoldsM w' mv' x.mods ∧ HoldsM w' kv' x.marks ∧ Only [] w w' ∧ ∀ g, g ∈ ownOf mv' ∨ g ∈ ownOf kv' → w.heap.size ≤ g := by
  obtain ⟨ma, mc, hmv, _⟩ := id h1
  obtain ⟨ka, kc, hkv, _⟩ := id h2
  subst hmv hkv
  obtain ⟨W, hW⟩ : ∃ W, W = (w.alloc (.cells (hC x (.slice ma x.mods.length mc) (.slice ka x.marks.length kc)).toArray 34)).alloc (.cells (hC h0 (.slice none 0 0) (.slice none 0 0)).toArray 34) := ⟨_, rfl⟩
  have oW : Only [] w W := hW ▸ (((Only.refl [] w).alloc _).alloc _)
  have bX : Blk W w.heap.size 34 (hC x (.slice ma x.mods.length mc) (.slice ka x.marks.length kc)).toArray := hW ▸ ((Blk.new w _ _).only ((Only.refl [] _).alloc _) (by simp))
  have bR : Blk W (w.heap.size + 1) 34 (hC h0 (.slice none 0 0) (.slice none 0 0)).toArray := by
    have := Blk.new (w.alloc (.cells (hC x (.slice ma x.mods.length mc) (.slice ka x.marks.length kc)).toArray 34)) 34 (hC h0 (.slice none 0 0) (.slice none 0 0)).toArray
    rw [World.size_alloc] at this
    exact hW ▸ this
  have OW := hid oW
  have BX := hid bX
  have BR := hid bR
  have C1 := hid (fun w' (o : Only [] W w') => cpm_any (.slice ma x.mods.length mc) x.mods w' (h1.only0 (oW.trans o)) l1)
  have C2 := hid (fun w' (o : Only [] W w') => cpm_any (.slice ka x.marks.length kc) x.marks w' (h2.only0 (oW.trans o)) l2)
  have XC := hid (fun w' (o : Only [] W w') => And.intro ((bX.only o (by simp)).cell (i := 10) (v := .slice ma x.mods.length mc) rfl) ((bX.only o (by simp)).cell (i := 14) (v := .slice ka x.marks.length kc) rfl))
  obtain ⟨p, hp⟩ : ∃ p, p = w.heap.size := ⟨_, rfl⟩
  have PW := hid (show p < W.heap.size ∧ p + 1 < W.heap.size ∧ p = w.heap.size from ⟨by rw [hp]; exact bX.lt, by rw [hp]; exact bR.lt, hp⟩)
  rw [← hp] at BX BR XC
  clear h1 h2 l1 l2 oW bX bR
  simp only [hV, hC, h0] at hW ⊢
  go_enter Tryz.func16, Tryz.ntmps16
  go_upto_region 1 with (fail)
  rw [← hW, ← hp]
  clear hW hp
  refine wp_region_tail (fun w' => Only [] W w') 7 10 (by kernel_rfl) rfl (Only.refl [] W).drew (fun hS => ?_)
  refine wpAnyT_take 0 (v := ?va1) rfl (by kernel_rfl) (fun _ _ _ h => h) (Or.inl ⟨by rfl, ?ya1⟩) hS ?ra1
  case ya1 =>
    intro w hSw
    obtain ⟨hc1, hc2⟩ := XC.out w hSw
    go_simp
    (try with_reducible rfl)
  (try simp only [Act.put, List.setIfInBounds_toArray, List.set_cons_zero, List.set_cons_succ])
  refine wpAnyT_take 1 (v := ?va2) rfl (by kernel_rfl) (fun _ _ _ h => h) (Or.inl ⟨by rfl, ?ya2⟩) hS ?ra2
  case ya2 =>
    intro w hSw
    obtain ⟨hc1, hc2⟩ := XC.out w hSw
    go_simp
    (try with_reducible rfl)
  (try simp only [Act.put, List.setIfInBounds_toArray, List.set_cons_zero, List.set_cons_succ])
  refine wpAnyT_take 3 (v := ?va3) rfl (by kernel_rfl) (fun _ _ _ h => h) (Or.inl ⟨by rfl, ?ya3⟩) hS ?ra3
  case ya3 =>
    intro w hSw
    obtain ⟨hc1, hc2⟩ := XC.out w hSw
    go_simp
    (try with_reducible rfl)
  (try simp only [Act.put, List.setIfInBounds_toArray, List.set_cons_zero, List.set_cons_succ])
  refine wpAnyT_take 4 (v := ?va4) rfl (by kernel_rfl) (fun _ _ _ h => h) (Or.inl ⟨by rfl, ?ya4⟩) hS ?ra4
  case ya4 =>
    intro w hSw
    obtain ⟨hc1, hc2⟩ := XC.out w hSw
    go_simp
    (try with_reducible rfl)
  (try simp only [Act.put, List.setIfInBounds_toArray, List.set_cons_zero, List.set_cons_succ])
  refine wpAnyT_call 2 rfl (by kernel_rfl) (fun K hK => ?_)
  go_simp
  refine (C1.out _ hS).mono ?_
  rintro e w3 ⟨u1, rfl, r1, o3, f3⟩
  refine hK.out _ _ (hS.trans o3) ?_
  clear hK K
  have hS3 : Only [] W w3 := hS.trans o3
  (try simp only [Act.put, List.setIfInBounds_toArray, List.set_cons_zero, List.set_cons_succ])
  refine wpAnyT_take 6 (v := ?va5) rfl (by kernel_rfl) (fun _ _ _ h => h) (Or.inl ⟨by rfl, ?ya5⟩) hS3 ?ra5
  case ya5 =>
    intro w hSw
    obtain ⟨hc1, hc2⟩ := XC.out w hSw
    go_simp
    (try with_reducible rfl)
  (try simp only [Act.put, List.setIfInBounds_toArray, List.set_cons_zero, List.set_cons_succ])
  refine wpAnyT_call 5 rfl (by kernel_rfl) (fun K hK => ?_)
  go_simp
  refine (C2.out _ hS3).mono ?_
  rintro e w4 ⟨u2, rfl, r2, o4, f4⟩
  refine hK.out _ _ (hS3.trans o4) ?_
  clear hK K
  have hS4 : Only [] W w4 := hS3.trans o4
  (try simp only [Act.put, List.setIfInBounds_toArray, List.set_cons_zero, List.set_cons_succ])
  obtain ⟨a1, k1, e1⟩ := holdsM_slice r1.holds
  obtain ⟨a2, k2, e2⟩ := holdsM_slice r2.holds
  subst e1 e2
  refine wpAnyT_tail _ rfl (by kernel_rfl) ?_
  simp only [List.drop_succ_cons, List.drop_zero]
  have b4 := BX.out.only hS4 (by simp)
  have q4 := BR.out.only hS4 (by simp)
  have x10 := b4.cell (i := 10) (v := .slice ma x.mods.length mc) rfl
  have y10 := b4.frozen 10
  have x14 := b4.cell (i := 14) (v := .slice ka x.marks.length kc) rfl
  have y14 := b4.frozen 14
  have O5 : Only [p] w4 ((w4.setCell ⟨p, 10, none⟩ (.slice a1 x.mods.length k1)).setCell ⟨p, 14, none⟩ (.slice a2 x.marks.length k2)) := ((Only.refl _ _).setCell (.inl (by simp)) _).setCell (.inl (by simp)) _
  have b5 : Blk ((w4.setCell ⟨p, 10, none⟩ (.slice a1 x.mods.length k1)).setCell ⟨p, 14, none⟩ (.slice a2 x.marks.length k2)) p 34 (hC x (.slice a1 x.mods.length k1) (.slice a2 x.marks.length k2)).toArray := (b4.set 10 _).set 14 _
  have q5 := q4.only O5 (by simp)
  have R1 := hid (r1.holds.only0 o4)
  have R2 := hid r2.holds
  have S4 := hid hS4
  have F3 := hid (fun g h => (Nat.le_trans (Nat.le_trans OW.out.size hS.size) (f3 g h) : w.heap.size ≤ g))
  have F4 := hid (fun g h => (Nat.le_trans (Nat.le_trans OW.out.size hS3.size) (f4 g h) : w.heap.size ≤ g))
  have F1 := hid (fun g h => (Nat.le_trans hS.size (f3 g h) : W.heap.size ≤ g))
  have F2 := hid (fun g h => (Nat.le_trans hS3.size (f4 g h) : W.heap.size ≤ g))
  clear hS hS3 hS4 r1 r2 o3 o4 f3 f4 q4 b4
  go_upto_region 2 with (fail)
  obtain ⟨w5, hw5⟩ : ∃ w5, w5 = (w4.setCell ⟨p, 10, none⟩ (.slice a1 x.mods.length k1)).setCell ⟨p, 14, none⟩ (.slice a2 x.marks.length k2) := ⟨_, rfl⟩
  rw [← hw5] at O5 b5 q5 ⊢
  clear hw5 x10 y10 x14 y14
  go_wp2_with (first
    | (refine load_blk rfl 34 _ rfl p _ (hC x (.slice a1 x.mods.length k1) (.slice a2 x.marks.length k2)) rfl b5 (hl_hdr _ _ _ _) ?_)
    | (refine store_blk rfl 34 _ _ rfl (p + 1) 0 _ _ (hC x (.slice a1 x.mods.length k1) (.slice a2 x.marks.length k2)) rfl rfl (info_hdr' _ _ _) q5 (by simp [hC]) (one_hC _ rfl rfl) ?_; intro w6 hB6 hO6))
  rw [setsA_h] at hB6
  have O6 : Only [p, p + 1] w4 w6 := (O5.mono (by intro y _ hy; simp at hy ⊢; exact .inl hy)).trans (hO6.mono (by intro y _ hy; simp at hy ⊢; exact .inr hy))
  have KP : ∀ (g : Nat), W.heap.size ≤ g → g ∉ [p, p + 1] := fun g h => by have := PW.out; simp; omega
  refine bodyPost_ret (v := hV x (.slice a1 x.mods.length k1) (.slice a2 x.marks.length k2)) (res_c rfl rfl (lv_hdr hB6)) rfl ⟨_, _, rfl, ?_, ?_, ?_, ?_⟩
  · exact R1.out.only2 O6 (fun ad n c e hl hm => KP ad.block (F1.out _ (by cases e; simp [ownOf, Value.ownBlock])) hm)
  · exact R2.out.only2 O6 (fun ad n c e hl hm => KP ad.block (F2.out _ (by cases e; simp [ownOf, Value.ownBlock])) hm)
  · exact (OW.out.trans S4.out).trans2 O6 (fun y hy => .inr (by have := PW.out; simp at hy; omega))
  · rintro g (h | h)
    · exact F3.out g h
    · exact F4.out g h
end Go.Proofs.YtjjjfmnhdnajkaaGreatDoor

end
section
set_option maxRecDepth 20000
namespace Go.Proofs.YtjjjfmnhdnajkaaGreatDoor
open Go.RowKit
set_option linter.unusedVariables false
set_option linter.unusedSimpArgs false

theorem take_min80 (l : List (Int × Int × Int)) (n : Nat) (hn : n = min l.length 80) : l.take n = l.take 80 := by
  subst hn
  rw [Nat.min_comm, ← List.take_take, List.take_length]
set_option maxRecDepth 100000 in
set_option maxHeartbeats 4000000 in
theorem few_any (x : HV) (mv kv : Value) (w : World) (h1 : HoldsM w mv x.mods) (h2 : HoldsM w kv x.marks) :
    Calls Tryz.prog 15 #[hV x mv kv] w fun e w' => ∃ mv' kv', e = .returned (hV x mv' kv') ∧ HoldsM w' mv' (x.mods.take 80) ∧ HoldsM w' kv' (x.marks.take 80) ∧ Only [] w w' ∧ ∀ g, g ∈ ownOf mv' ∨ g ∈ ownOf kv' → w.heap.size ≤ g := by
  obtain ⟨ma, mc, hmv, mb1, mb2, _⟩ := id h1
  obtain ⟨ka, kc, hkv, kb1, kb2, _⟩ := id h2
  subst hmv hkv
  obtain ⟨n1, hn1⟩ : ∃ n, n = min x.mods.length 80 := ⟨_, rfl⟩
  obtain ⟨n2, hn2⟩ : ∃ n, n = min x.marks.length 80 := ⟨_, rfl⟩
  have p1 := holdsM_part1 h1 n1 (by omega)
  have p2 := holdsM_part1 h2 n2 (by omega)
  rw [take_min80 _ _ hn1] at p1
  rw [take_min80 _ _ hn2] at p2
  have m1 : min (x.mods.length : Int) 80 = (n1 : Int) := by omega
  have m2 : min (x.marks.length : Int) 80 = (n2 : Int) := by omega
  have c1 : (n1 : Int) ≤ (mc : Int) := by omega
  have c2 : (n2 : Int) ≤ (kc : Int) := by omega
  have z1 : (0 : Int) ≤ (n1 : Int) := by omega
  have z2 : (0 : Int) ≤ (n2 : Int) := by omega
  have l1 : (x.mods.take 80).length = n1 := by rw [List.length_take]; omega
  have l2 : (x.marks.take 80).length = n2 := by rw [List.length_take]; omega
  obtain ⟨W, hW⟩ : ∃ W, W = (w.alloc (.cells (hC x (.slice ma x.mods.length mc) (.slice ka x.marks.length kc)).toArray 34)).alloc (.cells (hC h0 (.slice none 0 0) (.slice none 0 0)).toArray 34) := ⟨_, rfl⟩
  have oW : Only [] w W := hW ▸ (((Only.refl [] w).alloc _).alloc _)
  have bX : Blk W w.heap.size 34 (hC x (.slice ma x.mods.length mc) (.slice ka x.marks.length kc)).toArray := hW ▸ ((Blk.new w _ _).only ((Only.refl [] _).alloc _) (by simp))
  have bR : Blk W (w.heap.size + 1) 34 (hC h0 (.slice none 0 0) (.slice none 0 0)).toArray := by
    have := Blk.new (w.alloc (.cells (hC x (.slice ma x.mods.length mc) (.slice ka x.marks.length kc)).toArray 34)) 34 (hC h0 (.slice none 0 0) (.slice none 0 0)).toArray
    rw [World.size_alloc] at this
    exact hW ▸ this
  have OW := hid oW
  have BX := hid bX
  have BR := hid bR
  have C1 := hid (fun w' (o : Only [] W w') => cpm_any (.slice ma n1 mc) (x.mods.take 80) w' (p1.only0 (oW.trans o)) (by omega))
  have C2 := hid (fun w' (o : Only [] W w') => cpm_any (.slice ka n2 kc) (x.marks.take 80) w' (p2.only0 (oW.trans o)) (by omega))
  have XC := hid (fun w' (o : Only [] W w') => And.intro ((bX.only o (by simp)).cell (i := 10) (v := .slice ma x.mods.length mc) rfl) ((bX.only o (by simp)).cell (i := 14) (v := .slice ka x.marks.length kc) rfl))
  obtain ⟨p, hp⟩ : ∃ p, p = w.heap.size := ⟨_, rfl⟩
  have PW := hid (show p < W.heap.size ∧ p + 1 < W.heap.size ∧ p = w.heap.size from ⟨by rw [hp]; exact bX.lt, by rw [hp]; exact bR.lt, hp⟩)
  rw [← hp] at BX BR XC
  obtain ⟨T1, hT1⟩ : ∃ t, t = x.mods.take 80 := ⟨_, rfl⟩
  obtain ⟨T2, hT2⟩ : ∃ t, t = x.marks.take 80 := ⟨_, rfl⟩
  rw [← hT1] at C1 l1 ⊢
  rw [← hT2] at C2 l2 ⊢
  have LL := hid (And.intro l1 l2)
  clear h1 h2 oW bX bR p1 p2 mb1 mb2 kb1 kb2 hn1 hn2 l1 l2 hT1 hT2
  simp only [hV, hC, h0] at hW ⊢
  go_enter Tryz.func15, Tryz.ntmps15
  go_upto_region 1 with (fail)
  rw [← hW, ← hp]
  clear hW hp
  refine wp_region_tail (fun w' => Only [] W w') 17 20 (by kernel_rfl) rfl (Only.refl [] W).drew (fun hS => ?_)
  refine wpAnyT_take 0 (v := ?va1) rfl (by kernel_rfl) (fun _ _ _ h => h) (Or.inl ⟨by rfl, ?ya1⟩) hS ?ra1
  case ya1 =>
    intro w hSw
    obtain ⟨hc1, hc2⟩ := XC.out w hSw
    go_simp
    (try with_reducible rfl)
  (try simp only [Act.put, List.setIfInBounds_toArray, List.set_cons_zero, List.set_cons_succ])
  refine wpAnyT_take 1 (v := ?va2) rfl (by kernel_rfl) (fun _ _ _ h => h) (Or.inl ⟨by rfl, ?ya2⟩) hS ?ra2
  case ya2 =>
    intro w hSw
    obtain ⟨hc1, hc2⟩ := XC.out w hSw
    go_simp
    (try with_reducible rfl)
  (try simp only [Act.put, List.setIfInBounds_toArray, List.set_cons_zero, List.set_cons_succ])
  refine wpAnyT_take 2 (v := ?va3) rfl (by kernel_rfl) (fun _ _ _ h => h) (Or.inl ⟨by rfl, ?ya3⟩) hS ?ra3
  case ya3 =>
    intro w hSw
    obtain ⟨hc1, hc2⟩ := XC.out w hSw
    go_simp
    (try with_reducible rfl)
  (try simp only [Act.put, List.setIfInBounds_toArray, List.set_cons_zero, List.set_cons_succ])
  refine wpAnyT_take 3 (v := ?va4) rfl (by kernel_rfl) (fun _ _ _ h => h) (Or.inl ⟨by rfl, ?ya4⟩) hS ?ra4
  case ya4 =>
    intro w hSw
    obtain ⟨hc1, hc2⟩ := XC.out w hSw
    go_simp
    (try with_reducible rfl)
  (try simp only [Act.put, List.setIfInBounds_toArray, List.set_cons_zero, List.set_cons_succ])
  refine wpAnyT_take 4 (v := ?va5) rfl (by kernel_rfl) (fun _ _ _ h => h) (Or.inl ⟨by rfl, ?ya5⟩) hS ?ra5
  case ya5 =>
    intro w hSw
    obtain ⟨hc1, hc2⟩ := XC.out w hSw
    go_simp
    (try with_reducible rfl)
  (try simp only [Act.put, List.setIfInBounds_toArray, List.set_cons_zero, List.set_cons_succ])
  refine wpAnyT_take 5 (v := ?va6) rfl (by kernel_rfl) (fun _ _ _ h => h) (Or.inl ⟨by rfl, ?ya6⟩) hS ?ra6
  case ya6 =>
    intro w hSw
    obtain ⟨hc1, hc2⟩ := XC.out w hSw
    go_simp
    (try with_reducible rfl)
  (try simp only [Act.put, List.setIfInBounds_toArray, List.set_cons_zero, List.set_cons_succ])
  refine wpAnyT_take 6 (v := ?va7) rfl (by kernel_rfl) (fun _ _ _ h => h) (Or.inl ⟨by rfl, ?ya7⟩) hS ?ra7
  case ya7 =>
    intro w hSw
    obtain ⟨hc1, hc2⟩ := XC.out w hSw
    go_simp
    (try with_reducible rfl)
  (try simp only [Act.put, List.setIfInBounds_toArray, List.set_cons_zero, List.set_cons_succ])
  refine wpAnyT_take 8 (v := ?va8) rfl (by kernel_rfl) (fun _ _ _ h => h) (Or.inl ⟨by rfl, ?ya8⟩) hS ?ra8
  case ya8 =>
    intro w hSw
    obtain ⟨hc1, hc2⟩ := XC.out w hSw
    go_simp
    (try with_reducible rfl)
  (try simp only [Act.put, List.setIfInBounds_toArray, List.set_cons_zero, List.set_cons_succ])
  refine wpAnyT_take 9 (v := ?va9) rfl (by kernel_rfl) (fun _ _ _ h => h) (Or.inl ⟨by rfl, ?ya9⟩) hS ?ra9
  case ya9 =>
    intro w hSw
    obtain ⟨hc1, hc2⟩ := XC.out w hSw
    go_simp
    (try with_reducible rfl)
  (try simp only [Act.put, List.setIfInBounds_toArray, List.set_cons_zero, List.set_cons_succ])
  refine wpAnyT_take 10 (v := ?va10) rfl (by kernel_rfl) (fun _ _ _ h => h) (Or.inl ⟨by rfl, ?ya10⟩) hS ?ra10
  case ya10 =>
    intro w hSw
    obtain ⟨hc1, hc2⟩ := XC.out w hSw
    go_simp
    (try with_reducible rfl)
  (try simp only [Act.put, List.setIfInBounds_toArray, List.set_cons_zero, List.set_cons_succ])
  refine wpAnyT_take 11 (v := ?va11) rfl (by kernel_rfl) (fun _ _ _ h => h) (Or.inl ⟨by rfl, ?ya11⟩) hS ?ra11
  case ya11 =>
    intro w hSw
    obtain ⟨hc1, hc2⟩ := XC.out w hSw
    go_simp
    (try with_reducible rfl)
  (try simp only [Act.put, List.setIfInBounds_toArray, List.set_cons_zero, List.set_cons_succ])
  refine wpAnyT_take 12 (v := ?va12) rfl (by kernel_rfl) (fun _ _ _ h => h) (Or.inl ⟨by rfl, ?ya12⟩) hS ?ra12
  case ya12 =>
    intro w hSw
    obtain ⟨hc1, hc2⟩ := XC.out w hSw
    go_simp
    (try with_reducible rfl)
  (try simp only [Act.put, List.setIfInBounds_toArray, List.set_cons_zero, List.set_cons_succ])
  refine wpAnyT_take 13 (v := ?va13) rfl (by kernel_rfl) (fun _ _ _ h => h) (Or.inl ⟨by rfl, ?ya13⟩) hS ?ra13
  case ya13 =>
    intro w hSw
    obtain ⟨hc1, hc2⟩ := XC.out w hSw
    go_simp
    (try with_reducible rfl)
  (try simp only [Act.put, List.setIfInBounds_toArray, List.set_cons_zero, List.set_cons_succ])
  refine wpAnyT_take 14 (v := ?va14) rfl (by kernel_rfl) (fun _ _ _ h => h) (Or.inl ⟨by rfl, ?ya14⟩) hS ?ra14
  case ya14 =>
    intro w hSw
    obtain ⟨hc1, hc2⟩ := XC.out w hSw
    go_simp
    (try with_reducible rfl)
  (try simp only [Act.put, List.setIfInBounds_toArray, List.set_cons_zero, List.set_cons_succ])
  refine wpAnyT_call 7 rfl (by kernel_rfl) (fun K hK => ?_)
  go_simp
  refine (C1.out _ hS).mono ?_
  rintro e w3 ⟨u1, rfl, r1, o3, f3⟩
  refine hK.out _ _ (hS.trans o3) ?_
  clear hK K
  have hS3 : Only [] W w3 := hS.trans o3
  (try simp only [Act.put, List.setIfInBounds_toArray, List.set_cons_zero, List.set_cons_succ])
  refine wpAnyT_take 16 (v := ?va15) rfl (by kernel_rfl) (fun _ _ _ h => h) (Or.inl ⟨by rfl, ?ya15⟩) hS3 ?ra15
  case ya15 =>
    intro w hSw
    obtain ⟨hc1, hc2⟩ := XC.out w hSw
    go_simp
    (try with_reducible rfl)
  (try simp only [Act.put, List.setIfInBounds_toArray, List.set_cons_zero, List.set_cons_succ])
  refine wpAnyT_call 15 rfl (by kernel_rfl) (fun K hK => ?_)
  go_simp
  refine (C2.out _ hS3).mono ?_
  rintro e w4 ⟨u2, rfl, r2, o4, f4⟩
  refine hK.out _ _ (hS3.trans o4) ?_
  clear hK K
  have hS4 : Only [] W w4 := hS3.trans o4
  (try simp only [Act.put, List.setIfInBounds_toArray, List.set_cons_zero, List.set_cons_succ])
  obtain ⟨a1, k1, e1⟩ := holdsM_slice r1.holds
  obtain ⟨a2, k2, e2⟩ := holdsM_slice r2.holds
  subst e1 e2
  refine wpAnyT_tail _ rfl (by kernel_rfl) ?_
  simp only [List.drop_succ_cons, List.drop_zero]
  have b4 := BX.out.only hS4 (by simp)
  have q4 := BR.out.only hS4 (by simp)
  have x10 := b4.cell (i := 10) (v := .slice ma x.mods.length mc) rfl
  have y10 := b4.frozen 10
  have x14 := b4.cell (i := 14) (v := .slice ka x.marks.length kc) rfl
  have y14 := b4.frozen 14
  have O5 : Only [p] w4 ((w4.setCell ⟨p, 10, none⟩ (.slice a1 T1.length k1)).setCell ⟨p, 14, none⟩ (.slice a2 T2.length k2)) := ((Only.refl _ _).setCell (.inl (by simp)) _).setCell (.inl (by simp)) _
  have b5 : Blk ((w4.setCell ⟨p, 10, none⟩ (.slice a1 T1.length k1)).setCell ⟨p, 14, none⟩ (.slice a2 T2.length k2)) p 34 (hC x (.slice a1 T1.length k1) (.slice a2 T2.length k2)).toArray := (b4.set 10 _).set 14 _
  have q5 := q4.only O5 (by simp)
  have R1 := hid (r1.holds.only0 o4)
  have R2 := hid r2.holds
  have S4 := hid hS4
  have F3 := hid (fun g h => (Nat.le_trans (Nat.le_trans OW.out.size hS.size) (f3 g h) : w.heap.size ≤ g))
  have F4 := hid (fun g h => (Nat.le_trans (Nat.le_trans OW.out.size hS3.size) (f4 g h) : w.heap.size ≤ g))
  have F1 := hid (fun g h => (Nat.le_trans hS.size (f3 g h) : W.heap.size ≤ g))
  have F2 := hid (fun g h => (Nat.le_trans hS3.size (f4 g h) : W.heap.size ≤ g))
  clear hS hS3 hS4 r1 r2 o3 o4 f3 f4 q4 b4
  go_upto_region 2 with (fail)
  obtain ⟨w5, hw5⟩ : ∃ w5, w5 = (w4.setCell ⟨p, 10, none⟩ (.slice a1 T1.length k1)).setCell ⟨p, 14, none⟩ (.slice a2 T2.length k2) := ⟨_, rfl⟩
  rw [← hw5] at O5 b5 q5 ⊢
  clear hw5 x10 y10 x14 y14
  go_wp2_with (first
    | (refine load_blk rfl 34 _ rfl p _ (hC x (.slice a1 T1.length k1) (.slice a2 T2.length k2)) rfl b5 (hl_hdr _ _ _ _) ?_)
    | (refine store_blk rfl 34 _ _ rfl (p + 1) 0 _ _ (hC x (.slice a1 T1.length k1) (.slice a2 T2.length k2)) rfl rfl (info_hdr' _ _ _) q5 (by simp [hC]) (one_hC _ rfl rfl) ?_; intro w6 hB6 hO6))
  rw [setsA_h] at hB6
  have O6 : Only [p, p + 1] w4 w6 := (O5.mono (by intro y _ hy; simp at hy ⊢; exact .inl hy)).trans (hO6.mono (by intro y _ hy; simp at hy ⊢; exact .inr hy))
  have KP : ∀ (g : Nat), W.heap.size ≤ g → g ∉ [p, p + 1] := fun g h => by have := PW.out; simp; omega
  refine bodyPost_ret (v := hV x (.slice a1 T1.length k1) (.slice a2 T2.length k2)) (res_c rfl rfl (lv_hdr hB6)) rfl ⟨_, _, rfl, ?_, ?_, ?_, ?_⟩
  · exact R1.out.only2 O6 (fun ad n c e hl hm => KP ad.block (F1.out _ (by cases e; simp [ownOf, Value.ownBlock])) hm)
  · exact R2.out.only2 O6 (fun ad n c e hl hm => KP ad.block (F2.out _ (by cases e; simp [ownOf, Value.ownBlock])) hm)
  · exact (OW.out.trans S4.out).trans2 O6 (fun y hy => .inr (by have := PW.out; simp at hy; omega))
  · rintro g (h | h)
    · exact F3.out g h
    · exact F4.out g h
end Go.Proofs.YtjjjfmnhdnajkaaGreatDoor

end

/- The reference's store: New, PutSps, PutPps. -/
import Derived.Test.YtjjjfmnhdnajkaaGreatDoorMg2
import Derived.Test.YtjjjfmnhdnajkaaGreatDoorMg13
import Derived.Test.YtjjjfmnhdnajkaaGreatDoorRow
import Derived.Deep.RegionLaw
import Derived.Deep.RegionHeldLaw
import Derived.Lib.AppendZeros
namespace Go.Proofs.YtjjjfmnhdnajkaaGreatDoor
open Go.RowKit
set_option linter.unusedVariables false

/-- An append as a step of a region that draws, by what it does. -/
theorem step_append_eqS {P : Program} {ops : Array Oper} {o : Oper} {a : Act} {w : World} {K : Act → World → Prop} {Q : Exit → Act → World → Prop} {E : Prop}
    (hg : o.guard = none) (s x : Operand) (t1 t2 : TypeId) (hop : o.op = Op.call { callee := Callee.builtin Builtin.append, args := #[s, x], argTypes := #[t1, t2] })
    (v xv : Value) (hs : a.eval s = v) (hx : a.eval x = xv) (v' : Value) (w' : World) (hrun : (Builtin.append_ #[t1, t2] o.type #[v, xv]).run P w = .ok v' w')
    (hK : K (a.put o.dst v') w') : if Region.wanted o (yielded ops a.tmps) = true then Oper.wp P o a w K Q else E := by
  have hw : Region.wanted o (yielded ops a.tmps) = true := by simp [Region.wanted, hg]
  rw [if_pos hw]
  unfold Oper.wp
  simp [execOp, hop, resolve, invoke, builtin, hs, hx, hrun, Result.andThen]
  exact hK
def sCl (x : SV) : List Value := [.int .u8 x.pr, .int .u8 x.fl, .int .u8 x.lv, .int .i64 x.id, .int .i64 x.fb, .int .i64 x.pb, .int .i64 x.rf, .int .i64 x.wd, .int .i64 x.ht]
theorem sCl_ok : CellsN sCl 9 := ⟨fun _ => rfl, fun x u h => by simp [sCl] at h; rcases h with h | h | h | h | h | h | h | h | h <;> (subst h; rfl), by omega⟩
theorem s_row : RowType Tryz.prog 48 27 (.agg #[.int .u8 0, .int .u8 0, .int .u8 0, .int .i64 0, .int .i64 0, .int .i64 0, .int .i64 0, .int .i64 0, .int .i64 0]) 9 56 := ⟨by kernel_rfl, by kernel_rfl, rfl, by omega⟩
theorem sAt_of {w : World} {b o : Nat} {x : SV} (h : CellsAt sCl w b o x) : SAt w b o x := ⟨h 0 _ rfl, h 1 _ rfl, h 2 _ rfl, h 3 _ rfl, h 4 _ rfl, h 5 _ rfl, h 6 _ rfl, h 7 _ rfl, h 8 _ rfl⟩
def pCl (x : PV) : List Value := [.int .i64 x.id, .int .i64 x.sps, .bool x.cab, .int .i64 x.rf, .int .i64 x.r1, .int .i64 x.qp, .int .i64 x.qs, .int .i64 x.ch, .bool x.db, .bool x.nt]
theorem pCl_ok : CellsN pCl 10 := ⟨fun _ => rfl, fun x u h => by simp [pCl] at h; rcases h with h | h | h | h | h | h | h | h | h | h <;> (subst h; rfl), by omega⟩
theorem p_row : RowType Tryz.prog 47 24 (.agg #[.int .i64 0, .int .i64 0, .bool false, .int .i64 0, .int .i64 0, .int .i64 0, .int .i64 0, .int .i64 0, .bool false, .bool false]) 10 72 := ⟨by kernel_rfl, by kernel_rfl, rfl, by omega⟩
theorem pAt_of {w : World} {b o : Nat} {x : PV} (h : CellsAt pCl w b o x) : PAt w b o x := ⟨h 0 _ rfl, h 1 _ rfl, h 2 _ rfl, h 3 _ rfl, h 4 _ rfl, h 5 _ rfl, h 6 _ rfl, h 7 _ rfl, h 8 _ rfl, h 9 _ rfl⟩
/-- The reference's store at block b. -/
structure RSt (w : World) (b : Nat) (v1 v2 : Value) (ls : List SV) (lp : List PV) : Prop where
  c0 : w.cell? ⟨b, 0, none⟩ = some v1
  c1 : w.cell? ⟨b, 1, none⟩ = some v2
  f0 : w.frozen? ⟨b, 0, none⟩ = false
  f1 : w.frozen? ⟨b, 1, none⟩ = false
  h1 : RowG sCl 9 27 w v1 ls
  h2 : RowG pCl 10 24 w v2 lp
  n1 : b ∉ ownG v1
  n2 : b ∉ ownG v2
  ne : ∀ y, y ∈ ownG v1 → y ∉ ownG v2
def ownR (b : Nat) (v1 v2 : Value) : List Nat := b :: (ownG v1 ++ ownG v2)
theorem mem_ownR {b y : Nat} {v1 v2 : Value} : y ∈ ownR b v1 v2 ↔ y = b ∨ y ∈ ownG v1 ∨ y ∈ ownG v2 := by simp [ownR]
def RStL (w : World) (b : Nat) (L : List Nat) (ls : List SV) (lp : List PV) : Prop := ∃ v1 v2, L = ownR b v1 v2 ∧ RSt w b v1 v2 ls lp
section
variable {w w' : World} {b : Nat} {v1 v2 : Value} {ls : List SV} {lp : List PV} {L S : List Nat}
theorem RSt.lt (h : RSt w b v1 v2 ls lp) : b < w.heap.size := World.block_lt_of_cell? _ _ h.c0
theorem RSt.only (h : RSt w b v1 v2 ls lp) (k : Only S w w') (hs : ∀ y, y ∈ ownR b v1 v2 → y ∉ S) : RSt w' b v1 v2 ls lp :=
  have hb : b ∉ S := hs b (mem_ownR.2 (.inl rfl))
  ⟨k.cell h.c0 hb, k.cell h.c1 hb, (k.frozen (p := ⟨b, 0, none⟩) h.lt hb).trans h.f0, (k.frozen (p := ⟨b, 1, none⟩) h.lt hb).trans h.f1, h.h1.only k (fun y e => hs y (mem_ownR.2 (.inr (.inl e)))), h.h2.only k (fun y e => hs y (mem_ownR.2 (.inr (.inr e)))), h.n1, h.n2, h.ne⟩
theorem RStL.only (h : RStL w b L ls lp) (k : Only S w w') (hs : ∀ y, y ∈ L → y ∉ S) : RStL w' b L ls lp := by
  obtain ⟨v1, v2, rfl, h⟩ := h; exact ⟨v1, v2, rfl, h.only k hs⟩
theorem RStL.lt (h : RStL w b L ls lp) : ∀ y, y ∈ L → y < w.heap.size := by
  obtain ⟨v1, v2, rfl, h⟩ := h
  intro y hy
  rcases mem_ownR.1 hy with rfl | e | e
  · exact h.lt
  · exact h.h1.lt y e
  · exact h.h2.lt y e
end
theorem RSt.puts {w w3 : World} {b : Nat} {v1 v2 sv : Value} {ls l' : List SV} {lp : List PV} (h : RSt w b v1 v2 ls lp) (hr : RowG sCl 9 27 w3 sv l') (ho : Only (ownG v1) w w3) (hg : ∀ g, g ∈ ownG sv → g ∈ ownG v1 ∨ w.heap.size ≤ g) :
    RSt (w3.setCell ⟨b, 0, none⟩ sv) b sv v2 l' lp ∧ Only (ownR b v1 v2) w (w3.setCell ⟨b, 0, none⟩ sv) ∧ ∀ y, y ∈ ownR b sv v2 → y ∈ ownR b v1 v2 ∨ w.heap.size ≤ y := by
  have hs : ∀ g, g ∈ ownG sv → g ≠ b := fun g e eb => by subst eb; rcases hg g e with e | e; exact h.n1 e; have := h.lt; omega
  have ob : Only [b] w3 (w3.setCell ⟨b, 0, none⟩ sv) := (Only.refl _ _).setCell (.inl (by simp)) _
  refine ⟨⟨World.cell?_setCell_same _ _ _ (ho.cell h.c0 h.n1), by rw [World.cell?_setCell_other _ _ _ _ (by intro e; injection e; omega)]; exact ho.cell h.c1 h.n1, by simpa using (ho.frozen (p := ⟨b, 0, none⟩) h.lt h.n1).trans h.f0, by simpa using (ho.frozen (p := ⟨b, 1, none⟩) h.lt h.n1).trans h.f1,
    hr.only ob (fun g e h2 => hs g e (List.mem_singleton.1 h2)), (h.h2.only ho (fun g e e2 => h.ne g e2 e)).only ob (fun g e h2 => h.n2 (by rw [← List.mem_singleton.1 h2]; exact e)), fun e => hs b e rfl, h.n2, fun y e e2 => ?_⟩, ?_, fun y hy => ?_⟩
  · rcases hg y e with e3 | e3
    · exact h.ne y e3 e2
    · have := h.h2.lt y e2; omega
  · exact (ho.mono (fun k _ e => mem_ownR.2 (.inr (.inl e)))).trans (ob.mono (fun k _ e => by rw [List.mem_singleton.1 e]; exact mem_ownR.2 (.inl rfl)))
  · rcases mem_ownR.1 hy with rfl | e | e
    · exact .inl (mem_ownR.2 (.inl rfl))
    · exact (hg y e).imp (fun e => mem_ownR.2 (.inr (.inl e))) id
    · exact .inl (mem_ownR.2 (.inr (.inr e)))
theorem RSt.putp {w w3 : World} {b : Nat} {v1 v2 sv : Value} {ls : List SV} {lp l' : List PV} (h : RSt w b v1 v2 ls lp) (hr : RowG pCl 10 24 w3 sv l') (ho : Only (ownG v2) w w3) (hg : ∀ g, g ∈ ownG sv → g ∈ ownG v2 ∨ w.heap.size ≤ g) :
    RSt (w3.setCell ⟨b, 1, none⟩ sv) b v1 sv ls l' ∧ Only (ownR b v1 v2) w (w3.setCell ⟨b, 1, none⟩ sv) ∧ ∀ y, y ∈ ownR b v1 sv → y ∈ ownR b v1 v2 ∨ w.heap.size ≤ y := by
  have hs : ∀ g, g ∈ ownG sv → g ≠ b := fun g e eb => by subst eb; rcases hg g e with e | e; exact h.n2 e; have := h.lt; omega
  have ob : Only [b] w3 (w3.setCell ⟨b, 1, none⟩ sv) := (Only.refl _ _).setCell (.inl (by simp)) _
  refine ⟨⟨by rw [World.cell?_setCell_other _ _ _ _ (by intro e; injection e; omega)]; exact ho.cell h.c0 h.n2, World.cell?_setCell_same _ _ _ (ho.cell h.c1 h.n2), by simpa using (ho.frozen (p := ⟨b, 0, none⟩) h.lt h.n2).trans h.f0, by simpa using (ho.frozen (p := ⟨b, 1, none⟩) h.lt h.n2).trans h.f1,
    (h.h1.only ho (fun g e e2 => h.ne g e e2)).only ob (fun g e h2 => h.n1 (by rw [← List.mem_singleton.1 h2]; exact e)), hr.only ob (fun g e h2 => hs g e (List.mem_singleton.1 h2)), h.n1, fun e => hs b e rfl, fun y e e2 => ?_⟩, ?_, fun y hy => ?_⟩
  · rcases hg y e2 with e3 | e3
    · exact h.ne y e e3
    · have := h.h1.lt y e; omega
  · exact (ho.mono (fun k _ e => mem_ownR.2 (.inr (.inr e)))).trans (ob.mono (fun k _ e => by rw [List.mem_singleton.1 e]; exact mem_ownR.2 (.inl rfl)))
  · rcases mem_ownR.1 hy with rfl | e | e
    · exact .inl (mem_ownR.2 (.inl rfl))
    · exact .inl (mem_ownR.2 (.inr (.inl e)))
    · exact (hg y e).imp (fun e => mem_ownR.2 (.inr (.inr e))) id
set_option maxHeartbeats 400000 in
theorem rnew_any (w : World) : Calls Tryz.prog 34 #[] w fun e w' => e = .returned (.pointer (some ⟨w.heap.size, 0, none⟩)) ∧ RStL w' w.heap.size [w.heap.size] [] [] ∧ Only [] w w' := by
  go_enter Tryz.func34, Tryz.ntmps34
  go_wp2
  go_ret
  exact ⟨rfl, ⟨.slice none 0 0, .slice none 0 0, rfl, by simp, by simp, by simp, by simp, RowG.nil _, RowG.nil _, by simp [ownG, Value.ownBlock], by simp [ownG, Value.ownBlock], by simp [ownG, Value.ownBlock]⟩, (Only.refl _ _).alloc _⟩
/-- What a put does. -/
def RPutPost (w : World) (b : Nat) (L : List Nat) (r : Int) (ls : List SV) (lp : List PV) (e : Ending) (w' : World) : Prop :=
  e = .returned (.int .i64 r) ∧ ∃ L', RStL w' b L' ls lp ∧ Only L w w' ∧ ∀ y, y ∈ L' → y ∈ L ∨ w.heap.size ≤ y
set_option maxRecDepth 100000 in
set_option maxHeartbeats 2000000 in
theorem rputs_no {w : World} {b : Nat} {v1 v2 : Value} {ls : List SV} {lp : List PV} (h : RSt w b v1 v2 ls lp) (x : SV) (hx : okS x = false) :
    Calls Tryz.prog 38 #[.pointer (some ⟨b, 0, none⟩), sV x] w (RPutPost w b (ownR b v1 v2) 3 ls lp) := by
  have CH := hid (show chS x = 3 by unfold chS; rw [hx]; rfl)
  clear hx
  obtain ⟨D, hD⟩ : ∃ D, D = w.heap.size := ⟨_, rfl⟩
  have H := hid h
  clear h
  go_enter Tryz.func38, Tryz.ntmps38
  go_upto_region 1 with (fail)
  generalize hw1 : w.alloc _ = w1
  have O1 := hid (show Only [] w w1 from hw1 ▸ (Only.refl [] w).alloc _)
  have A1 := hid (show SAt w1 w.heap.size 0 x from hw1 ▸ SAt.new w x _)
  rw [← hD] at A1 ⊢
  have DL := hid (show D < w1.heap.size by rw [← hw1, hD]; simp)
  have HD := hid hD
  clear hw1 hD
  obtain ⟨a0, a1, a2, a3, a4, a5, a6, a7, a8⟩ := A1.out.all
  go_wp2_with fail
  refine (rcheck6_any x _).mono ?_
  rintro e w2 ⟨rfl, ho2⟩
  rw [CH.out]
  have O2 := hid (O1.out.trans ho2)
  clear ho2 a0 a1 a2 a3 a4 a5 a6 a7 a8
  go_wp2_with fail
  go_ret
  exact ⟨rfl, _, ⟨v1, v2, rfl, H.out.only O2.out (by simp)⟩, O2.out.mono (by simp), fun y hy => .inl hy⟩
set_option maxRecDepth 100000 in
set_option maxHeartbeats 2000000 in
theorem rputs_yes {w : World} {b : Nat} {v1 v2 : Value} {ls : List SV} {lp : List PV} (h : RSt w b v1 v2 ls lp) (x : SV) (hx : okS x = true) (hn : ls.length < 1000) :
    Calls Tryz.prog 38 #[.pointer (some ⟨b, 0, none⟩), sV x] w (RPutPost w b (ownR b v1 v2) 0 (ls ++ [x]) lp) := by
  have CH := hid (show chS x = 0 by unfold chS; rw [hx]; rfl)
  have HN := hid hn
  clear hx hn
  obtain ⟨D, hD⟩ : ∃ D, D = w.heap.size := ⟨_, rfl⟩
  have H := hid h
  clear h
  go_enter Tryz.func38, Tryz.ntmps38
  go_upto_region 1 with (fail)
  generalize hw1 : w.alloc _ = w1
  have O1 := hid (show Only [] w w1 from hw1 ▸ (Only.refl [] w).alloc _)
  have A1 := hid (show SAt w1 w.heap.size 0 x from hw1 ▸ SAt.new w x _)
  rw [← hD] at A1 ⊢
  have DL := hid (show D < w1.heap.size by rw [← hw1, hD]; simp)
  have HD := hid hD
  clear hw1 hD
  obtain ⟨a0, a1, a2, a3, a4, a5, a6, a7, a8⟩ := A1.out.all
  go_wp2_with fail
  refine (rcheck6_any x _).mono ?_
  rintro e w2 ⟨rfl, ho2⟩
  rw [CH.out]
  have O2 := hid (O1.out.trans ho2)
  clear a0 a1 a2 a3 a4 a5 a6 a7 a8
  obtain ⟨a0, a1, a2, a3, a4, a5, a6, a7, a8⟩ := (A1.out.only ho2 (by simp)).all
  have H2 := hid (H.out.only O2.out (by simp))
  have c0 := H2.out.c0
  obtain ⟨sv, w3, hrun, hrow, honly, hown⟩ := append_oneG (w := w2.drew) sCl_ok s_row v1 ls x (H2.out.h1.only (Only.refl [] w2).drew (by simp)) (by have := HN.out; omega)
  obtain ⟨sa, sc, rfl, _⟩ := hrow.holds sCl_ok
  have d0 := honly.cell (w := w2.drew) (p := ⟨b, 0, none⟩) c0 H2.out.n1
  have g0 := (honly.frozen (p := ⟨b, 0, none⟩) H2.out.lt H2.out.n1).trans H2.out.f0
  have c0' : ∀ o : Obj, (w2.alloc o).cell? ⟨b, 0, none⟩ = some v1 := fun o => ((Only.refl [] w2).alloc o).cell c0 (by simp)
  have hrun2 : (Builtin.append_ #[48, 48] 48 #[v1, .slice (some ⟨w2.heap.size, 0, none⟩) 1 1]).run Tryz.prog (w2.alloc (.cells (sCl x).toArray 27)).drew = .ok (.slice sa (ls ++ [x]).length sc) w3 := hrun
  have HR := hid (And.intro hrow (And.intro honly hown))
  clear hrow honly hown ho2
  go_wp2_with fail
  go_region_law (first | refine step_append_eqS rfl _ _ _ _ rfl _ _ rfl rfl _ _ hrun ?_ | refine step_append_eqS rfl _ _ _ _ rfl _ _ rfl rfl _ _ hrun2 ?_)
  all_goals
    go_wp2_with fail
    go_ret
    obtain ⟨q1, q2, q3⟩ := HR.out
    obtain ⟨r1, r2, r3⟩ := H2.out.puts q1 ((Only.refl _ w2).drew.trans q2) (fun g hg => q3 g hg)
    have e : (ls ++ [x]).length = ls.length + 1 := by simp
    rw [e] at r1 r2 r3
    exact ⟨rfl, _, ⟨_, _, rfl, r1⟩, (O2.out.mono (by simp)).trans r2, fun y hy => (r3 y hy).imp id (fun h => Nat.le_trans O2.out.size h)⟩
theorem RPutSps_any {w : World} {b : Nat} {L : List Nat} {ls : List SV} {lp : List PV} (h : RStL w b L ls lp) (x : SV) (hx : okS x = true) (hn : ls.length < 1000) :
    Calls Tryz.prog 38 #[.pointer (some ⟨b, 0, none⟩), sV x] w (RPutPost w b L 0 (ls ++ [x]) lp) := by
  obtain ⟨v1, v2, rfl, h⟩ := h
  exact rputs_yes h x hx hn
theorem RPutSps_no {w : World} {b : Nat} {L : List Nat} {ls : List SV} {lp : List PV} (h : RStL w b L ls lp) (x : SV) (hx : okS x = false) :
    Calls Tryz.prog 38 #[.pointer (some ⟨b, 0, none⟩), sV x] w (RPutPost w b L 3 ls lp) := by
  obtain ⟨v1, v2, rfl, h⟩ := h
  exact rputs_no h x hx
set_option maxRecDepth 100000 in
set_option maxHeartbeats 2000000 in
theorem rputp_no {w : World} {b : Nat} {v1 v2 : Value} {ls : List SV} {lp : List PV} (h : RSt w b v1 v2 ls lp) (x : PV) (hx : okP x = false) :
    Calls Tryz.prog 36 #[.pointer (some ⟨b, 0, none⟩), pV x] w (RPutPost w b (ownR b v1 v2) 3 ls lp) := by
  have CH := hid (show chP x = 3 by unfold chP; rw [hx]; rfl)
  clear hx
  obtain ⟨D, hD⟩ : ∃ D, D = w.heap.size := ⟨_, rfl⟩
  have H := hid h
  clear h
  go_enter Tryz.func36, Tryz.ntmps36
  go_upto_region 1 with (fail)
  generalize hw1 : w.alloc _ = w1
  have O1 := hid (show Only [] w w1 from hw1 ▸ (Only.refl [] w).alloc _)
  have A1 := hid (show PAt w1 w.heap.size 0 x from hw1 ▸ PAt.new w x _)
  rw [← hD] at A1 ⊢
  have DL := hid (show D < w1.heap.size by rw [← hw1, hD]; simp)
  have HD := hid hD
  clear hw1 hD
  obtain ⟨a0, a1, a2, a3, a4, a5, a6, a7, a8, a9⟩ := A1.out.all
  go_wp2_with fail
  refine (rcheck7_any x _).mono ?_
  rintro e w2 ⟨rfl, ho2⟩
  rw [CH.out]
  have O2 := hid (O1.out.trans ho2)
  clear ho2 a0 a1 a2 a3 a4 a5 a6 a7 a8 a9
  go_wp2_with fail
  go_ret
  exact ⟨rfl, _, ⟨v1, v2, rfl, H.out.only O2.out (by simp)⟩, O2.out.mono (by simp), fun y hy => .inl hy⟩
set_option maxRecDepth 100000 in
set_option maxHeartbeats 2000000 in
theorem rputp_yes {w : World} {b : Nat} {v1 v2 : Value} {ls : List SV} {lp : List PV} (h : RSt w b v1 v2 ls lp) (x : PV) (hx : okP x = true) (hn : lp.length < 1000) :
    Calls Tryz.prog 36 #[.pointer (some ⟨b, 0, none⟩), pV x] w (RPutPost w b (ownR b v1 v2) 0 ls (lp ++ [x])) := by
  have CH := hid (show chP x = 0 by unfold chP; rw [hx]; rfl)
  have HN := hid hn
  clear hx hn
  obtain ⟨D, hD⟩ : ∃ D, D = w.heap.size := ⟨_, rfl⟩
  have H := hid h
  clear h
  go_enter Tryz.func36, Tryz.ntmps36
  go_upto_region 1 with (fail)
  generalize hw1 : w.alloc _ = w1
  have O1 := hid (show Only [] w w1 from hw1 ▸ (Only.refl [] w).alloc _)
  have A1 := hid (show PAt w1 w.heap.size 0 x from hw1 ▸ PAt.new w x _)
  rw [← hD] at A1 ⊢
  have DL := hid (show D < w1.heap.size by rw [← hw1, hD]; simp)
  have HD := hid hD
  clear hw1 hD
  obtain ⟨a0, a1, a2, a3, a4, a5, a6, a7, a8, a9⟩ := A1.out.all
  go_wp2_with fail
  refine (rcheck7_any x _).mono ?_
  rintro e w2 ⟨rfl, ho2⟩
  rw [CH.out]
  have O2 := hid (O1.out.trans ho2)
  clear a0 a1 a2 a3 a4 a5 a6 a7 a8 a9
  obtain ⟨a0, a1, a2, a3, a4, a5, a6, a7, a8, a9⟩ := (A1.out.only ho2 (by simp)).all
  have H2 := hid (H.out.only O2.out (by simp))
  have c0 := H2.out.c1
  obtain ⟨sv, w3, hrun, hrow, honly, hown⟩ := append_oneG (w := w2.drew) pCl_ok p_row v2 lp x (H2.out.h2.only (Only.refl [] w2).drew (by simp)) (by have := HN.out; omega)
  obtain ⟨sa, sc, rfl, _⟩ := hrow.holds pCl_ok
  have d0 := honly.cell (w := w2.drew) (p := ⟨b, 1, none⟩) c0 H2.out.n2
  have g0 := (honly.frozen (p := ⟨b, 1, none⟩) H2.out.lt H2.out.n2).trans H2.out.f1
  have c0' : ∀ o : Obj, (w2.alloc o).cell? ⟨b, 1, none⟩ = some v2 := fun o => ((Only.refl [] w2).alloc o).cell c0 (by simp)
  have hrun2 : (Builtin.append_ #[47, 47] 47 #[v2, .slice (some ⟨w2.heap.size, 0, none⟩) 1 1]).run Tryz.prog (w2.alloc (.cells (pCl x).toArray 24)).drew = .ok (.slice sa (lp ++ [x]).length sc) w3 := hrun
  have HR := hid (And.intro hrow (And.intro honly hown))
  clear hrow honly hown ho2
  go_wp2_with fail
  go_region_law (first | refine step_append_eqS rfl _ _ _ _ rfl _ _ rfl rfl _ _ hrun ?_ | refine step_append_eqS rfl _ _ _ _ rfl _ _ rfl rfl _ _ hrun2 ?_)
  all_goals
    go_wp2_with fail
    go_ret
    obtain ⟨q1, q2, q3⟩ := HR.out
    obtain ⟨r1, r2, r3⟩ := H2.out.putp q1 ((Only.refl _ w2).drew.trans q2) (fun g hg => q3 g hg)
    have e : (lp ++ [x]).length = lp.length + 1 := by simp
    rw [e] at r1 r2 r3
    exact ⟨rfl, _, ⟨_, _, rfl, r1⟩, (O2.out.mono (by simp)).trans r2, fun y hy => (r3 y hy).imp id (fun h => Nat.le_trans O2.out.size h)⟩
theorem RPutPps_any {w : World} {b : Nat} {L : List Nat} {ls : List SV} {lp : List PV} (h : RStL w b L ls lp) (x : PV) (hx : okP x = true) (hn : lp.length < 1000) :
    Calls Tryz.prog 36 #[.pointer (some ⟨b, 0, none⟩), pV x] w (RPutPost w b L 0 ls (lp ++ [x])) := by
  obtain ⟨v1, v2, rfl, h⟩ := h
  exact rputp_yes h x hx hn
theorem RPutPps_no {w : World} {b : Nat} {L : List Nat} {ls : List SV} {lp : List PV} (h : RStL w b L ls lp) (x : PV) (hx : okP x = false) :
    Calls Tryz.prog 36 #[.pointer (some ⟨b, 0, none⟩), pV x] w (RPutPost w b L 3 ls lp) := by
  obtain ⟨v1, v2, rfl, h⟩ := h
  exact rputp_no h x hx
end Go.Proofs.YtjjjfmnhdnajkaaGreatDoor

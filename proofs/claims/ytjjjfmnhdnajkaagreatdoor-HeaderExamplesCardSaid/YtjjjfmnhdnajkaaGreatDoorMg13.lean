/- The program's store: what it holds; its map's put. -/
/- The program's store: New, PutSps, PutPps, Get, Copy. -/
/- The program's store: Get. -/
/- The program's store: Copy. -/
import Derived.Test.YtjjjfmnhdnajkaaGreatDoorMg2
import Derived.Test.YtjjjfmnhdnajkaaGreatDoorMg1
import Derived.Carry
import Derived.Laws.IdiomMaps
import Derived.Deep.RegionWith
import Derived.Deep.RegionHeld3
import Derived.Deep.DeepCutAuto
import Derived.Laws.Externs
section
set_option maxRecDepth 20000
namespace Go.Proofs.YtjjjfmnhdnajkaaGreatDoor
open Go.RowKit Go.Maps
set_option linter.unusedVariables false

theorem und_int : Tryz.prog.underlying 3 = some (.int .i64) := by kernel_rfl
theorem und_ms : Tryz.prog.underlying 91 = some (.map 3 27) := by kernel_rfl
theorem und_mp : Tryz.prog.underlying 93 = some (.map 3 24) := by kernel_rfl
theorem zero_s (w : World) : (zeroValue 27).run Tryz.prog w = .ok (sV s0) w := by kernel_rfl
theorem zero_p (w : World) : (zeroValue 24).run Tryz.prog w = .ok (pV p0) w := by kernel_rfl
abbrev MapS (w : World) (m : Option Nat) (n : Nat) (f : Int → Option SV) : Prop := MapIn Tryz.prog 3 sV w m n f
abbrev MapP (w : World) (m : Option Nat) (n : Nat) (f : Int → Option PV) : Prop := MapIn Tryz.prog 3 pV w m n f
theorem look_s {w : World} {m : Option Nat} {n : Nat} {f : Int → Option SV} (h : MapS w m n f) {k : Int} (hk : IntOk k) {x : SV} {r : Bool} (hx : (f k).getD s0 = x) (hr : (f k).isSome = r) :
    (Instr.lookup 91 (.map m) (.int .i64 k) true).run Tryz.prog w = .ok (.tuple #[sV x, .bool r]) w := by
  subst hx; subst hr; exact MapIn.look h und_int und_ms (fun _ _ => sV_inj) zero_s hk
theorem look_p {w : World} {m : Option Nat} {n : Nat} {f : Int → Option PV} (h : MapP w m n f) {k : Int} (hk : IntOk k) {x : PV} {r : Bool} (hx : (f k).getD p0 = x) (hr : (f k).isSome = r) :
    (Instr.lookup 93 (.map m) (.int .i64 k) true).run Tryz.prog w = .ok (.tuple #[pV x, .bool r]) w := by
  subst hx; subst hr; exact MapIn.look h und_int und_mp (fun _ _ => pV_inj) zero_p hk
theorem store_s {w : World} {b n : Nat} {f : Int → Option SV} (h : MapS w (some b) n f) (hn : n < maxLen) {k : Int} (hk : IntOk k) (x : SV) :
    ∃ w', (Instr.mapUpdate 91 (.map (some b)) (.int .i64 k) (sV x)).run Tryz.prog w = .ok () w' ∧ MapS w' (some b) (n + 1) (upd f k x) ∧ Only [b] w w' ∧ w'.heap.size = w.heap.size ∧ (∀ a : Addr, a.block ≠ b → w'.cell? a = w.cell? a ∧ w'.frozen? a = w.frozen? a) :=
  MapAt.store h und_int und_ms (fun _ _ => sV_inj) hn hk x
theorem store_p {w : World} {b n : Nat} {f : Int → Option PV} (h : MapP w (some b) n f) (hn : n < maxLen) {k : Int} (hk : IntOk k) (x : PV) :
    ∃ w', (Instr.mapUpdate 93 (.map (some b)) (.int .i64 k) (pV x)).run Tryz.prog w = .ok () w' ∧ MapP w' (some b) (n + 1) (upd f k x) ∧ Only [b] w w' ∧ w'.heap.size = w.heap.size ∧ (∀ a : Addr, a.block ≠ b → w'.cell? a = w.cell? a ∧ w'.frozen? a = w.frozen? a) :=
  MapAt.store h und_int und_mp (fun _ _ => pV_inj) hn hk x
theorem equalIn_map {P : Program} (d : Nat) (t : TypeId) {k e : TypeId} (h : P.underlying t = some (.map k e)) (p : Option Nat) (w : World) : (Op.equalIn (d + 1) t (.map p) (.map none)).run P w = .ok p.isNone w := by
  cases p <;> simp [Op.equalIn, run_underlying h]
theorem eql_map {P : Program} (t : TypeId) {k e : TypeId} (h : P.underlying t = some (.map k e)) (p : Option Nat) (w : World) : (binOp .eql t (.map p) (.map none)).run P w = .ok (.bool p.isNone) w := by
  simp only [binOp]
  simp [show Op.equal t (.map p) (.map none) = Op.equalIn (9999 + 1) t (.map p) (.map none) from rfl, equalIn_map 9999 t h p w]

/-- The cells of a parameter set in memory. -/
structure SAt (w : World) (b o : Nat) (x : SV) : Prop where
  c0 : w.cell? ⟨b, o, none⟩ = some (.int .u8 x.pr)
  c1 : w.cell? ⟨b, o + 1, none⟩ = some (.int .u8 x.fl)
  c2 : w.cell? ⟨b, o + 2, none⟩ = some (.int .u8 x.lv)
  c3 : w.cell? ⟨b, o + 3, none⟩ = some (.int .i64 x.id)
  c4 : w.cell? ⟨b, o + 4, none⟩ = some (.int .i64 x.fb)
  c5 : w.cell? ⟨b, o + 5, none⟩ = some (.int .i64 x.pb)
  c6 : w.cell? ⟨b, o + 6, none⟩ = some (.int .i64 x.rf)
  c7 : w.cell? ⟨b, o + 7, none⟩ = some (.int .i64 x.wd)
  c8 : w.cell? ⟨b, o + 8, none⟩ = some (.int .i64 x.ht)
theorem SAt.only {S : List Nat} {w w' : World} {b o : Nat} {x : SV} (h : SAt w b o x) (k : Only S w w') (hb : b ∉ S) : SAt w' b o x :=
  ⟨k.cell h.c0 hb, k.cell h.c1 hb, k.cell h.c2 hb, k.cell h.c3 hb, k.cell h.c4 hb, k.cell h.c5 hb, k.cell h.c6 hb, k.cell h.c7 hb, k.cell h.c8 hb⟩
theorem SAt.new (w : World) (x : SV) (t : TypeId) : SAt (w.alloc (.cells #[.int .u8 x.pr, .int .u8 x.fl, .int .u8 x.lv, .int .i64 x.id, .int .i64 x.fb, .int .i64 x.pb, .int .i64 x.rf, .int .i64 x.wd, .int .i64 x.ht] t)) w.heap.size 0 x :=
  ⟨by simp, by simp, by simp, by simp, by simp, by simp, by simp, by simp, by simp⟩
theorem SAt.all {w : World} {b : Nat} {x : SV} (h : SAt w b 0 x) : w.cell? ⟨b, 0, none⟩ = some (.int .u8 x.pr) ∧ w.cell? ⟨b, 1, none⟩ = some (.int .u8 x.fl) ∧ w.cell? ⟨b, 2, none⟩ = some (.int .u8 x.lv) ∧ w.cell? ⟨b, 3, none⟩ = some (.int .i64 x.id) ∧ w.cell? ⟨b, 4, none⟩ = some (.int .i64 x.fb) ∧ w.cell? ⟨b, 5, none⟩ = some (.int .i64 x.pb) ∧ w.cell? ⟨b, 6, none⟩ = some (.int .i64 x.rf) ∧ w.cell? ⟨b, 7, none⟩ = some (.int .i64 x.wd) ∧ w.cell? ⟨b, 8, none⟩ = some (.int .i64 x.ht) :=
  ⟨by simpa using h.c0, by simpa using h.c1, by simpa using h.c2, by simpa using h.c3, by simpa using h.c4, by simpa using h.c5, by simpa using h.c6, by simpa using h.c7, by simpa using h.c8⟩
/-- The cells of a parameter set in memory. -/
structure PAt (w : World) (b o : Nat) (x : PV) : Prop where
  c0 : w.cell? ⟨b, o, none⟩ = some (.int .i64 x.id)
  c1 : w.cell? ⟨b, o + 1, none⟩ = some (.int .i64 x.sps)
  c2 : w.cell? ⟨b, o + 2, none⟩ = some (.bool x.cab)
  c3 : w.cell? ⟨b, o + 3, none⟩ = some (.int .i64 x.rf)
  c4 : w.cell? ⟨b, o + 4, none⟩ = some (.int .i64 x.r1)
  c5 : w.cell? ⟨b, o + 5, none⟩ = some (.int .i64 x.qp)
  c6 : w.cell? ⟨b, o + 6, none⟩ = some (.int .i64 x.qs)
  c7 : w.cell? ⟨b, o + 7, none⟩ = some (.int .i64 x.ch)
  c8 : w.cell? ⟨b, o + 8, none⟩ = some (.bool x.db)
  c9 : w.cell? ⟨b, o + 9, none⟩ = some (.bool x.nt)
theorem PAt.only {S : List Nat} {w w' : World} {b o : Nat} {x : PV} (h : PAt w b o x) (k : Only S w w') (hb : b ∉ S) : PAt w' b o x :=
  ⟨k.cell h.c0 hb, k.cell h.c1 hb, k.cell h.c2 hb, k.cell h.c3 hb, k.cell h.c4 hb, k.cell h.c5 hb, k.cell h.c6 hb, k.cell h.c7 hb, k.cell h.c8 hb, k.cell h.c9 hb⟩
theorem PAt.new (w : World) (x : PV) (t : TypeId) : PAt (w.alloc (.cells #[.int .i64 x.id, .int .i64 x.sps, .bool x.cab, .int .i64 x.rf, .int .i64 x.r1, .int .i64 x.qp, .int .i64 x.qs, .int .i64 x.ch, .bool x.db, .bool x.nt] t)) w.heap.size 0 x :=
  ⟨by simp, by simp, by simp, by simp, by simp, by simp, by simp, by simp, by simp, by simp⟩
theorem PAt.all {w : World} {b : Nat} {x : PV} (h : PAt w b 0 x) : w.cell? ⟨b, 0, none⟩ = some (.int .i64 x.id) ∧ w.cell? ⟨b, 1, none⟩ = some (.int .i64 x.sps) ∧ w.cell? ⟨b, 2, none⟩ = some (.bool x.cab) ∧ w.cell? ⟨b, 3, none⟩ = some (.int .i64 x.rf) ∧ w.cell? ⟨b, 4, none⟩ = some (.int .i64 x.r1) ∧ w.cell? ⟨b, 5, none⟩ = some (.int .i64 x.qp) ∧ w.cell? ⟨b, 6, none⟩ = some (.int .i64 x.qs) ∧ w.cell? ⟨b, 7, none⟩ = some (.int .i64 x.ch) ∧ w.cell? ⟨b, 8, none⟩ = some (.bool x.db) ∧ w.cell? ⟨b, 9, none⟩ = some (.bool x.nt) :=
  ⟨by simpa using h.c0, by simpa using h.c1, by simpa using h.c2, by simpa using h.c3, by simpa using h.c4, by simpa using h.c5, by simpa using h.c6, by simpa using h.c7, by simpa using h.c8, by simpa using h.c9⟩

/-- What a put does to the map that a cell names. -/
def PutS (b o : Nat) (m : Option Nat) (n : Nat) (f : Int → Option SV) (w : World) (e : Ending) (w' : World) : Prop :=
  e = .returned (.tuple #[]) ∧ ∃ m', MapS w' (some m') n f ∧ w'.cell? ⟨b, o, none⟩ = some (.map (some m')) ∧ w'.frozen? ⟨b, o, none⟩ = false ∧
    (∀ o', o' ≠ o → w'.cell? ⟨b, o', none⟩ = w.cell? ⟨b, o', none⟩ ∧ w'.frozen? ⟨b, o', none⟩ = w.frozen? ⟨b, o', none⟩) ∧ ((m = some m' ∧ Only [m'] w w') ∨ (m = none ∧ w.heap.size ≤ m' ∧ Only [b] w w'))
def PutP (b o : Nat) (m : Option Nat) (n : Nat) (f : Int → Option PV) (w : World) (e : Ending) (w' : World) : Prop :=
  e = .returned (.tuple #[]) ∧ ∃ m', MapP w' (some m') n f ∧ w'.cell? ⟨b, o, none⟩ = some (.map (some m')) ∧ w'.frozen? ⟨b, o, none⟩ = false ∧
    (∀ o', o' ≠ o → w'.cell? ⟨b, o', none⟩ = w.cell? ⟨b, o', none⟩ ∧ w'.frozen? ⟨b, o', none⟩ = w.frozen? ⟨b, o', none⟩) ∧ ((m = some m' ∧ Only [m'] w w') ∨ (m = none ∧ w.heap.size ≤ m' ∧ Only [b] w w'))

set_option maxRecDepth 100000 in
set_option maxHeartbeats 2000000 in
theorem puts_old (b o m n : Nat) (f : Int → Option SV) (k : Int) (x : SV) (w : World) (hc : w.cell? ⟨b, o, none⟩ = some (.map (some m))) (hf : w.frozen? ⟨b, o, none⟩ = false) (hm : MapS w (some m) n f) (hn : n < maxLen) (hk : IntOk k) (hb : b ≠ m) :
    Calls Tryz.prog 81 #[.pointer (some ⟨b, o, none⟩), .int .i64 k, sV x] w (PutS b o (some m) (n + 1) (upd f k x) w) := by
  obtain ⟨D, hD⟩ : ∃ D, D = w.heap.size := ⟨_, rfl⟩
  have HF := hid hf
  have HB := hid hb
  have HC := hid hc
  have HM := hid hm
  have HL := hid (MapIn.lt hm m rfl)
  have BL := hid (show b < w.heap.size from World.block_lt_of_cell? _ _ hc)
  have EQ := fun w => eql_map (P := Tryz.prog) _ und_ms (some m) w
  clear hc hf hm hb
  go_enter Tryz.func81, Tryz.ntmps81
  go_upto_region 1 with (fail)
  generalize hw1 : w.alloc _ = w1
  have O1 := hid (show Only [] w w1 from hw1 ▸ (Only.refl [] w).alloc _)
  have K1 := hid (show ∀ o', w1.cell? ⟨b, o', none⟩ = w.cell? ⟨b, o', none⟩ ∧ w1.frozen? ⟨b, o', none⟩ = w.frozen? ⟨b, o', none⟩ from fun o' => ⟨World.cell?_of_block (w := w) (O1.out.block b BL.out (by simp)), World.frozen?_of_block (w := w) (O1.out.block b BL.out (by simp))⟩)
  obtain ⟨a0, a1, a2, a3, a4, a5, a6, a7, a8⟩ := SAt.all (show SAt w1 w.heap.size 0 x from hw1 ▸ SAt.new w x _)
  rw [← hD] at a0 a1 a2 a3 a4 a5 a6 a7 a8 ⊢
  have HD := hid hD
  clear hw1 hD
  have c1 := O1.out.cell HC.out (by simp)
  have f1 := (O1.out.frozen (p := ⟨b, o, none⟩) BL.out (by simp)).trans HF.out
  obtain ⟨w2, hrun, hm2, ho2, hs2, hk2⟩ := store_s (MapIn.only HM.out O1.out.drew (by simp)) hn hk x
  have M2 := hid hm2
  have O2 := hid ho2
  have K2 := hid hk2
  have F1 := hid f1
  have C1 := hid c1
  clear hm2 ho2 hs2 hk2 hn hk f1
  go_wp2_with fail
  go_region_with (fail)
  all_goals
    go_wp2_with fail
    (first | refine bodyPost_end (results_none rfl _ _ _) rfl ?_ | refine bodyPost_ret (results_none rfl _ _ _) rfl ?_)
    exact ⟨rfl, m, M2.out, ((K2.out ⟨b, o, none⟩ HB.out).1.trans C1.out), ((K2.out ⟨b, o, none⟩ HB.out).2.trans F1.out), fun o' ho' => ⟨(K2.out ⟨b, o', none⟩ HB.out).1.trans (K1.out o').1, (K2.out ⟨b, o', none⟩ HB.out).2.trans (K1.out o').2⟩, .inl ⟨rfl, ((O1.out.mono (T := [m]) (by simp)).drew).trans O2.out⟩⟩
set_option maxRecDepth 100000 in
set_option maxHeartbeats 2000000 in
theorem puts_nil (b o n : Nat) (f : Int → Option SV) (k : Int) (x : SV) (w : World) (hc : w.cell? ⟨b, o, none⟩ = some (.map none)) (hf : w.frozen? ⟨b, o, none⟩ = false) (hm : MapS w none n f) (hk : IntOk k) :
    Calls Tryz.prog 81 #[.pointer (some ⟨b, o, none⟩), .int .i64 k, sV x] w (PutS b o none (n + 1) (upd f k x) w) := by
  obtain ⟨D, hD⟩ : ∃ D, D = w.heap.size := ⟨_, rfl⟩
  have HF := hid hf
  have HC := hid hc
  have HM := hid (show f = fun _ => none from hm)
  have BL := hid (show b < w.heap.size from World.block_lt_of_cell? _ _ hc)
  have EQ := fun w => eql_map (P := Tryz.prog) _ und_ms none w
  have hmm := @run_makeMap Tryz.prog
  clear hc hf hm
  go_enter Tryz.func81, Tryz.ntmps81
  go_upto_region 1 with (fail)
  generalize hw1 : w.alloc _ = w1
  have O1 := hid (show Only [] w w1 from hw1 ▸ (Only.refl [] w).alloc _)
  have K1 := hid (show ∀ o', w1.cell? ⟨b, o', none⟩ = w.cell? ⟨b, o', none⟩ ∧ w1.frozen? ⟨b, o', none⟩ = w.frozen? ⟨b, o', none⟩ from fun o' => ⟨World.cell?_of_block (w := w) (O1.out.block b BL.out (by simp)), World.frozen?_of_block (w := w) (O1.out.block b BL.out (by simp))⟩)
  have A1 := hid (show SAt w1 w.heap.size 0 x from hw1 ▸ SAt.new w x _)
  rw [← hD] at A1 ⊢
  have L1 := hid (show D < w1.heap.size by rw [← hw1, hD]; simp)
  have HD := hid hD
  clear hw1 hD
  have c1 := O1.out.cell HC.out (by simp)
  have f1 := (O1.out.frozen (p := ⟨b, o, none⟩) BL.out (by simp)).trans HF.out
  obtain ⟨E, hE⟩ : ∃ E, E = w1.heap.size := ⟨_, rfl⟩
  have hbE : b ≠ E := by have := O1.out.size; have := BL.out; omega
  have hbD : b ≠ D := by have := BL.out; have := HD.out; omega
  have ca : (w1.alloc (.map #[] 0)).cell? ⟨b, o, none⟩ = some (.map none) := ((Only.refl [] w1).alloc (.map #[] 0)).cell c1 (by simp)
  have fa : (w1.alloc (.map #[] 0)).frozen? ⟨b, o, none⟩ = false := (((Only.refl [] w1).alloc (.map #[] 0)).frozen (p := ⟨b, o, none⟩) (World.block_lt_of_cell? _ _ c1) (by simp)).trans f1
  go_upto_region 3 with (fail)
  generalize hw2 : (w1.alloc (.map #[] 0)).setCell _ _ = w2
  have O2 := hid (show Only [b] w1 w2 from hw2 ▸ ((Only.refl [b] w1).alloc _).setCell (.inl (by simp)) _)
  obtain ⟨a0, a1, a2, a3, a4, a5, a6, a7, a8⟩ := SAt.all (show SAt w2 D 0 x from A1.out.only O2.out (by simpa using Ne.symm hbD))
  have c2 : w2.cell? ⟨b, o, none⟩ = some (.map (some E)) := by rw [← hw2, hE]; exact World.cell?_setCell_same _ _ _ ca
  have f2 : w2.frozen? ⟨b, o, none⟩ = false := by rw [← hw2]; simp; exact fa
  have M2 := hid (show MapS w2 (some E) 0 (fun _ => none) from by
    rw [← hw2, hE]
    exact MapAt.block (MapAt.new w1) (Below.heap_setCell _ _ _ _ (by simp; omega)))
  have K2 := hid (show ∀ o', o' ≠ o → w2.cell? ⟨b, o', none⟩ = w1.cell? ⟨b, o', none⟩ ∧ w2.frozen? ⟨b, o', none⟩ = w1.frozen? ⟨b, o', none⟩ from fun o' ho' => by
    rw [← hw2]
    refine ⟨?_, ?_⟩
    · rw [World.cell?_setCell_other _ _ _ _ (by intro e; injection e; omega)]
      exact World.cell?_of_block (w := w1) (((Only.refl [] w1).alloc (.map #[] 0)).block b (World.block_lt_of_cell? _ _ c1) (by simp))
    · rw [World.frozen?_setCell]
      exact World.frozen?_of_block (w := w1) (((Only.refl [] w1).alloc (.map #[] 0)).block b (World.block_lt_of_cell? _ _ c1) (by simp)))
  have HE := hid hE
  have HBE := hid hbE
  rw [← hE]
  clear hw2 c1 f1 ca fa hbD hE hbE
  obtain ⟨w3, hrun, hm3, ho3, hs3, hk3⟩ := store_s (w := w2.drew) M2.out (by unfold maxLen; omega) hk x
  have M3 := hid hm3
  have O3 := hid ho3
  have K3 := hid hk3
  have F2 := hid f2
  have C2 := hid c2
  clear hm3 ho3 hs3 hk3 hk f2
  go_region_with (fail)
  all_goals
    go_wp2_with fail
    (first | refine bodyPost_end (results_none rfl _ _ _) rfl ?_ | refine bodyPost_ret (results_none rfl _ _ _) rfl ?_)
    have hO : Only [b] w w3 := by
      refine (((O1.out.mono (T := [b]) (by simp)).trans O2.out).drew).trans2 O3.out (fun y hy => .inr ?_)
      rw [List.mem_singleton.1 hy, HE.out]; exact O1.out.size
    exact ⟨rfl, E, by rw [HM.out]; exact M3.out.mono (by omega), ((K3.out ⟨b, o, none⟩ HBE.out).1.trans C2.out), ((K3.out ⟨b, o, none⟩ HBE.out).2.trans F2.out), fun o' ho' => ⟨((K3.out ⟨b, o', none⟩ HBE.out).1.trans (K2.out o' ho').1).trans (K1.out o').1, ((K3.out ⟨b, o', none⟩ HBE.out).2.trans (K2.out o' ho').2).trans (K1.out o').2⟩, .inr ⟨rfl, by rw [HE.out]; exact O1.out.size, hO⟩⟩
set_option maxRecDepth 100000 in
set_option maxHeartbeats 2000000 in
theorem putp_old (b o m n : Nat) (f : Int → Option PV) (k : Int) (x : PV) (w : World) (hc : w.cell? ⟨b, o, none⟩ = some (.map (some m))) (hf : w.frozen? ⟨b, o, none⟩ = false) (hm : MapP w (some m) n f) (hn : n < maxLen) (hk : IntOk k) (hb : b ≠ m) :
    Calls Tryz.prog 80 #[.pointer (some ⟨b, o, none⟩), .int .i64 k, pV x] w (PutP b o (some m) (n + 1) (upd f k x) w) := by
  obtain ⟨D, hD⟩ : ∃ D, D = w.heap.size := ⟨_, rfl⟩
  have HF := hid hf
  have HB := hid hb
  have HC := hid hc
  have HM := hid hm
  have HL := hid (MapIn.lt hm m rfl)
  have BL := hid (show b < w.heap.size from World.block_lt_of_cell? _ _ hc)
  have EQ := fun w => eql_map (P := Tryz.prog) _ und_mp (some m) w
  clear hc hf hm hb
  go_enter Tryz.func80, Tryz.ntmps80
  go_upto_region 1 with (fail)
  generalize hw1 : w.alloc _ = w1
  have O1 := hid (show Only [] w w1 from hw1 ▸ (Only.refl [] w).alloc _)
  have K1 := hid (show ∀ o', w1.cell? ⟨b, o', none⟩ = w.cell? ⟨b, o', none⟩ ∧ w1.frozen? ⟨b, o', none⟩ = w.frozen? ⟨b, o', none⟩ from fun o' => ⟨World.cell?_of_block (w := w) (O1.out.block b BL.out (by simp)), World.frozen?_of_block (w := w) (O1.out.block b BL.out (by simp))⟩)
  obtain ⟨a0, a1, a2, a3, a4, a5, a6, a7, a8, a9⟩ := PAt.all (show PAt w1 w.heap.size 0 x from hw1 ▸ PAt.new w x _)
  rw [← hD] at a0 a1 a2 a3 a4 a5 a6 a7 a8 a9 ⊢
  have HD := hid hD
  clear hw1 hD
  have c1 := O1.out.cell HC.out (by simp)
  have f1 := (O1.out.frozen (p := ⟨b, o, none⟩) BL.out (by simp)).trans HF.out
  obtain ⟨w2, hrun, hm2, ho2, hs2, hk2⟩ := store_p (MapIn.only HM.out O1.out.drew (by simp)) hn hk x
  have M2 := hid hm2
  have O2 := hid ho2
  have K2 := hid hk2
  have F1 := hid f1
  have C1 := hid c1
  clear hm2 ho2 hs2 hk2 hn hk f1
  go_wp2_with fail
  go_region_with (fail)
  all_goals
    go_wp2_with fail
    (first | refine bodyPost_end (results_none rfl _ _ _) rfl ?_ | refine bodyPost_ret (results_none rfl _ _ _) rfl ?_)
    exact ⟨rfl, m, M2.out, ((K2.out ⟨b, o, none⟩ HB.out).1.trans C1.out), ((K2.out ⟨b, o, none⟩ HB.out).2.trans F1.out), fun o' ho' => ⟨(K2.out ⟨b, o', none⟩ HB.out).1.trans (K1.out o').1, (K2.out ⟨b, o', none⟩ HB.out).2.trans (K1.out o').2⟩, .inl ⟨rfl, ((O1.out.mono (T := [m]) (by simp)).drew).trans O2.out⟩⟩
set_option maxRecDepth 100000 in
set_option maxHeartbeats 2000000 in
theorem putp_nil (b o n : Nat) (f : Int → Option PV) (k : Int) (x : PV) (w : World) (hc : w.cell? ⟨b, o, none⟩ = some (.map none)) (hf : w.frozen? ⟨b, o, none⟩ = false) (hm : MapP w none n f) (hk : IntOk k) :
    Calls Tryz.prog 80 #[.pointer (some ⟨b, o, none⟩), .int .i64 k, pV x] w (PutP b o none (n + 1) (upd f k x) w) := by
  obtain ⟨D, hD⟩ : ∃ D, D = w.heap.size := ⟨_, rfl⟩
  have HF := hid hf
  have HC := hid hc
  have HM := hid (show f = fun _ => none from hm)
  have BL := hid (show b < w.heap.size from World.block_lt_of_cell? _ _ hc)
  have EQ := fun w => eql_map (P := Tryz.prog) _ und_mp none w
  have hmm := @run_makeMap Tryz.prog
  clear hc hf hm
  go_enter Tryz.func80, Tryz.ntmps80
  go_upto_region 1 with (fail)
  generalize hw1 : w.alloc _ = w1
  have O1 := hid (show Only [] w w1 from hw1 ▸ (Only.refl [] w).alloc _)
  have K1 := hid (show ∀ o', w1.cell? ⟨b, o', none⟩ = w.cell? ⟨b, o', none⟩ ∧ w1.frozen? ⟨b, o', none⟩ = w.frozen? ⟨b, o', none⟩ from fun o' => ⟨World.cell?_of_block (w := w) (O1.out.block b BL.out (by simp)), World.frozen?_of_block (w := w) (O1.out.block b BL.out (by simp))⟩)
  have A1 := hid (show PAt w1 w.heap.size 0 x from hw1 ▸ PAt.new w x _)
  rw [← hD] at A1 ⊢
  have L1 := hid (show D < w1.heap.size by rw [← hw1, hD]; simp)
  have HD := hid hD
  clear hw1 hD
  have c1 := O1.out.cell HC.out (by simp)
  have f1 := (O1.out.frozen (p := ⟨b, o, none⟩) BL.out (by simp)).trans HF.out
  obtain ⟨E, hE⟩ : ∃ E, E = w1.heap.size := ⟨_, rfl⟩
  have hbE : b ≠ E := by have := O1.out.size; have := BL.out; omega
  have hbD : b ≠ D := by have := BL.out; have := HD.out; omega
  have ca : (w1.alloc (.map #[] 0)).cell? ⟨b, o, none⟩ = some (.map none) := ((Only.refl [] w1).alloc (.map #[] 0)).cell c1 (by simp)
  have fa : (w1.alloc (.map #[] 0)).frozen? ⟨b, o, none⟩ = false := (((Only.refl [] w1).alloc (.map #[] 0)).frozen (p := ⟨b, o, none⟩) (World.block_lt_of_cell? _ _ c1) (by simp)).trans f1
  go_upto_region 3 with (fail)
  generalize hw2 : (w1.alloc (.map #[] 0)).setCell _ _ = w2
  have O2 := hid (show Only [b] w1 w2 from hw2 ▸ ((Only.refl [b] w1).alloc _).setCell (.inl (by simp)) _)
  obtain ⟨a0, a1, a2, a3, a4, a5, a6, a7, a8, a9⟩ := PAt.all (show PAt w2 D 0 x from A1.out.only O2.out (by simpa using Ne.symm hbD))
  have c2 : w2.cell? ⟨b, o, none⟩ = some (.map (some E)) := by rw [← hw2, hE]; exact World.cell?_setCell_same _ _ _ ca
  have f2 : w2.frozen? ⟨b, o, none⟩ = false := by rw [← hw2]; simp; exact fa
  have M2 := hid (show MapP w2 (some E) 0 (fun _ => none) from by
    rw [← hw2, hE]
    exact MapAt.block (MapAt.new w1) (Below.heap_setCell _ _ _ _ (by simp; omega)))
  have K2 := hid (show ∀ o', o' ≠ o → w2.cell? ⟨b, o', none⟩ = w1.cell? ⟨b, o', none⟩ ∧ w2.frozen? ⟨b, o', none⟩ = w1.frozen? ⟨b, o', none⟩ from fun o' ho' => by
    rw [← hw2]
    refine ⟨?_, ?_⟩
    · rw [World.cell?_setCell_other _ _ _ _ (by intro e; injection e; omega)]
      exact World.cell?_of_block (w := w1) (((Only.refl [] w1).alloc (.map #[] 0)).block b (World.block_lt_of_cell? _ _ c1) (by simp))
    · rw [World.frozen?_setCell]
      exact World.frozen?_of_block (w := w1) (((Only.refl [] w1).alloc (.map #[] 0)).block b (World.block_lt_of_cell? _ _ c1) (by simp)))
  have HE := hid hE
  have HBE := hid hbE
  rw [← hE]
  clear hw2 c1 f1 ca fa hbD hE hbE
  obtain ⟨w3, hrun, hm3, ho3, hs3, hk3⟩ := store_p (w := w2.drew) M2.out (by unfold maxLen; omega) hk x
  have M3 := hid hm3
  have O3 := hid ho3
  have K3 := hid hk3
  have F2 := hid f2
  have C2 := hid c2
  clear hm3 ho3 hs3 hk3 hk f2
  go_region_with (fail)
  all_goals
    go_wp2_with fail
    (first | refine bodyPost_end (results_none rfl _ _ _) rfl ?_ | refine bodyPost_ret (results_none rfl _ _ _) rfl ?_)
    have hO : Only [b] w w3 := by
      refine (((O1.out.mono (T := [b]) (by simp)).trans O2.out).drew).trans2 O3.out (fun y hy => .inr ?_)
      rw [List.mem_singleton.1 hy, HE.out]; exact O1.out.size
    exact ⟨rfl, E, by rw [HM.out]; exact M3.out.mono (by omega), ((K3.out ⟨b, o, none⟩ HBE.out).1.trans C2.out), ((K3.out ⟨b, o, none⟩ HBE.out).2.trans F2.out), fun o' ho' => ⟨((K3.out ⟨b, o', none⟩ HBE.out).1.trans (K2.out o' ho').1).trans (K1.out o').1, ((K3.out ⟨b, o', none⟩ HBE.out).2.trans (K2.out o' ho').2).trans (K1.out o').2⟩, .inr ⟨rfl, by rw [HE.out]; exact O1.out.size, hO⟩⟩
end Go.Proofs.YtjjjfmnhdnajkaaGreatDoor

end
section
set_option maxRecDepth 20000
namespace Go.Proofs.YtjjjfmnhdnajkaaGreatDoor
open Go.RowKit Go.Maps
set_option linter.unusedVariables false

/-- The store at block b: its maps' blocks, what they hold, and at most how many entries. -/
structure St (w : World) (b : Nat) (m1 m2 : Option Nat) (f : Int → Option SV) (g : Int → Option PV) (n : Nat) : Prop where
  c0 : w.cell? ⟨b, 0, none⟩ = some (.map m1)
  c1 : w.cell? ⟨b, 1, none⟩ = some (.map m2)
  f0 : w.frozen? ⟨b, 0, none⟩ = false
  f1 : w.frozen? ⟨b, 1, none⟩ = false
  h1 : MapS w m1 n f
  h2 : MapP w m2 n g
  n1 : ∀ y, m1 = some y → y ≠ b
  n2 : ∀ y, m2 = some y → y ≠ b
  ne : ∀ y, m1 = some y → m2 ≠ some y
  a1 : AllS f
  a2 : AllP g
def ownL (b : Nat) (m1 m2 : Option Nat) : List Nat := b :: (m1.toList ++ m2.toList)
theorem mem_own {b y : Nat} {m1 m2 : Option Nat} : y ∈ ownL b m1 m2 ↔ y = b ∨ m1 = some y ∨ m2 = some y := by
  cases m1 <;> cases m2 <;> simp [ownL, eq_comm]
/-- .. all its blocks are in L. -/
def StL (w : World) (b : Nat) (L : List Nat) (f : Int → Option SV) (g : Int → Option PV) (n : Nat) : Prop := ∃ m1 m2, L = ownL b m1 m2 ∧ St w b m1 m2 f g n
theorem St.lt {w : World} {b : Nat} {m1 m2 : Option Nat} {f : Int → Option SV} {g : Int → Option PV} {n : Nat} (h : St w b m1 m2 f g n) : b < w.heap.size := World.block_lt_of_cell? _ _ h.c0
theorem St.only {S : List Nat} {w w' : World} {b : Nat} {m1 m2 : Option Nat} {f : Int → Option SV} {g : Int → Option PV} {n : Nat} (h : St w b m1 m2 f g n) (k : Only S w w') (hs : ∀ y, y ∈ ownL b m1 m2 → y ∉ S) : St w' b m1 m2 f g n :=
  have hb : b ∉ S := hs b (mem_own.2 (.inl rfl))
  ⟨k.cell h.c0 hb, k.cell h.c1 hb, (k.frozen (p := ⟨b, 0, none⟩) h.lt hb).trans h.f0, (k.frozen (p := ⟨b, 1, none⟩) h.lt hb).trans h.f1, MapIn.only h.h1 k (fun y e => hs y (mem_own.2 (.inr (.inl e)))), MapIn.only h.h2 k (fun y e => hs y (mem_own.2 (.inr (.inr e)))), h.n1, h.n2, h.ne, h.a1, h.a2⟩
theorem St.mono {w : World} {b : Nat} {m1 m2 : Option Nat} {f : Int → Option SV} {g : Int → Option PV} {n n' : Nat} (h : St w b m1 m2 f g n) (hn : n ≤ n') : St w b m1 m2 f g n' :=
  ⟨h.c0, h.c1, h.f0, h.f1, MapIn.mono h.h1 hn, MapIn.mono h.h2 hn, h.n1, h.n2, h.ne, h.a1, h.a2⟩
theorem StL.only {S : List Nat} {w w' : World} {b : Nat} {L : List Nat} {f : Int → Option SV} {g : Int → Option PV} {n : Nat} (h : StL w b L f g n) (k : Only S w w') (hs : ∀ y, y ∈ L → y ∉ S) : StL w' b L f g n := by
  obtain ⟨m1, m2, rfl, h⟩ := h; exact ⟨m1, m2, rfl, h.only k hs⟩
theorem StL.mono {w : World} {b : Nat} {L : List Nat} {f : Int → Option SV} {g : Int → Option PV} {n n' : Nat} (h : StL w b L f g n) (hn : n ≤ n') : StL w b L f g n' := by
  obtain ⟨m1, m2, rfl, h⟩ := h; exact ⟨m1, m2, rfl, h.mono hn⟩
theorem StL.lt {w : World} {b : Nat} {L : List Nat} {f : Int → Option SV} {g : Int → Option PV} {n : Nat} (h : StL w b L f g n) : ∀ y, y ∈ L → y < w.heap.size := by
  obtain ⟨m1, m2, rfl, h⟩ := h
  intro y hy
  rcases mem_own.1 hy with rfl | e | e
  · exact h.lt
  · exact MapIn.lt h.h1 y e
  · exact MapIn.lt h.h2 y e
theorem StL.mem {w : World} {b : Nat} {L : List Nat} {f : Int → Option SV} {g : Int → Option PV} {n : Nat} (h : StL w b L f g n) : b ∈ L := by
  obtain ⟨m1, m2, rfl, h⟩ := h; exact mem_own.2 (.inl rfl)

set_option maxHeartbeats 400000 in
theorem new_any (w : World) : Calls Tryz.prog 12 #[] w fun e w' => e = .returned (.pointer (some ⟨w.heap.size, 0, none⟩)) ∧ StL w' w.heap.size [w.heap.size] (fun _ => none) (fun _ => none) 0 ∧ Only [] w w' := by
  go_enter Tryz.func12, Tryz.ntmps12
  go_wp2
  go_ret
  exact ⟨rfl, ⟨none, none, rfl, by simp, by simp, by simp, by simp, rfl, rfl, (fun y h => by cases h), (fun y h => by cases h), (fun y h => by cases h), (fun i x h => by cases h), (fun i x h => by cases h)⟩, (Only.refl _ _).alloc _⟩

/-- What a put does. -/
def PutPost (w : World) (b : Nat) (L : List Nat) (r : Int) (f : Int → Option SV) (g : Int → Option PV) (n : Nat) (e : Ending) (w' : World) : Prop :=
  e = .returned (.int .i64 r) ∧ ∃ L', StL w' b L' f g n ∧ Only L w w' ∧ ∀ y, y ∈ L' → y ∈ L ∨ w.heap.size ≤ y
theorem puts_any {w : World} {b : Nat} {m1 m2 : Option Nat} {f : Int → Option SV} {g : Int → Option PV} {n : Nat} (h : St w b m1 m2 f g n) (x : SV) (k : Int) (hk : IntOk k) (hn : n < maxLen) :
    Calls Tryz.prog 81 #[.pointer (some ⟨b, 0, none⟩), .int .i64 k, sV x] w (PutS b 0 m1 (n + 1) (upd f k x) w) := by
  cases m1 with
  | none => exact puts_nil b 0 n f k x w h.c0 h.f0 h.h1 hk
  | some m => exact puts_old b 0 m n f k x w h.c0 h.f0 h.h1 hn hk (Ne.symm (h.n1 m rfl))
theorem putp_any {w : World} {b : Nat} {m1 m2 : Option Nat} {f : Int → Option SV} {g : Int → Option PV} {n : Nat} (h : St w b m1 m2 f g n) (x : PV) (k : Int) (hk : IntOk k) (hn : n < maxLen) :
    Calls Tryz.prog 80 #[.pointer (some ⟨b, 1, none⟩), .int .i64 k, pV x] w (PutP b 1 m2 (n + 1) (upd g k x) w) := by
  cases m2 with
  | none => exact putp_nil b 1 n g k x w h.c1 h.f1 h.h2 hk
  | some m => exact putp_old b 1 m n g k x w h.c1 h.f1 h.h2 hn hk (Ne.symm (h.n2 m rfl))
theorem St.puts {w w' : World} {b : Nat} {m1 m2 : Option Nat} {f : Int → Option SV} {g : Int → Option PV} {n : Nat} (h : St w b m1 m2 f g n) {x : SV} {e : Ending} (hx : okS x = true) (hp : PutS b 0 m1 (n + 1) (upd f x.id x) w e w') :
    e = .returned (.tuple #[]) ∧ ∃ L', StL w' b L' (upd f x.id x) g (n + 1) ∧ Only (ownL b m1 m2) w w' ∧ ∀ y, y ∈ L' → y ∈ ownL b m1 m2 ∨ w.heap.size ≤ y := by
  obtain ⟨he, m', hM, hc, hf, hk, ho⟩ := hp
  obtain ⟨k1, k2⟩ := hk 1 (by omega)
  have hb := h.lt
  rcases ho with ⟨rfl, ho⟩ | ⟨rfl, hlt, ho⟩
  · refine ⟨he, ownL b (some m') m2, ⟨some m', m2, rfl, hc, k1.trans h.c1, hf, k2.trans h.f1, hM, (MapIn.only h.h2 ho (fun y e hy => h.ne m' rfl (by rw [e, List.mem_singleton.1 hy]))).mono (by omega), h.n1, h.n2, h.ne, h.a1.upd hx, h.a2⟩, ho.mono (fun y _ hy => by rw [List.mem_singleton.1 hy]; exact mem_own.2 (.inr (.inl rfl))), fun y hy => .inl hy⟩
  · refine ⟨he, ownL b (some m') m2, ⟨some m', m2, rfl, hc, k1.trans h.c1, hf, k2.trans h.f1, hM, (MapIn.only h.h2 ho (fun y e hy => h.n2 y e (List.mem_singleton.1 hy))).mono (by omega), fun y e => by cases e; omega, h.n2, fun y e e2 => by cases e; have := MapIn.lt h.h2 m' e2; omega, h.a1.upd hx, h.a2⟩, ho.mono (fun y _ hy => by rw [List.mem_singleton.1 hy]; exact mem_own.2 (.inl rfl)), fun y hy => ?_⟩
    rcases mem_own.1 hy with rfl | e | e
    · exact .inl (mem_own.2 (.inl rfl))
    · cases e; exact .inr hlt
    · exact .inl (mem_own.2 (.inr (.inr e)))
theorem St.putp {w w' : World} {b : Nat} {m1 m2 : Option Nat} {f : Int → Option SV} {g : Int → Option PV} {n : Nat} (h : St w b m1 m2 f g n) {x : PV} {e : Ending} (hx : okP x = true) (hp : PutP b 1 m2 (n + 1) (upd g x.id x) w e w') :
    e = .returned (.tuple #[]) ∧ ∃ L', StL w' b L' f (upd g x.id x) (n + 1) ∧ Only (ownL b m1 m2) w w' ∧ ∀ y, y ∈ L' → y ∈ ownL b m1 m2 ∨ w.heap.size ≤ y := by
  obtain ⟨he, m', hM, hc, hf, hk, ho⟩ := hp
  obtain ⟨k1, k2⟩ := hk 0 (by omega)
  have hb := h.lt
  rcases ho with ⟨rfl, ho⟩ | ⟨rfl, hlt, ho⟩
  · refine ⟨he, ownL b m1 (some m'), ⟨m1, some m', rfl, k1.trans h.c0, hc, k2.trans h.f0, hf, (MapIn.only h.h1 ho (fun y e hy => h.ne y e (by rw [List.mem_singleton.1 hy]))).mono (by omega), hM, h.n1, h.n2, h.ne, h.a1, h.a2.upd hx⟩, ho.mono (fun y _ hy => by rw [List.mem_singleton.1 hy]; exact mem_own.2 (.inr (.inr rfl))), fun y hy => .inl hy⟩
  · refine ⟨he, ownL b m1 (some m'), ⟨m1, some m', rfl, k1.trans h.c0, hc, k2.trans h.f0, hf, (MapIn.only h.h1 ho (fun y e hy => h.n1 y e (List.mem_singleton.1 hy))).mono (by omega), hM, h.n1, fun y e => by cases e; omega, fun y e e2 => by cases e2; have := MapIn.lt h.h1 m' e; omega, h.a1, h.a2.upd hx⟩, ho.mono (fun y _ hy => by rw [List.mem_singleton.1 hy]; exact mem_own.2 (.inl rfl)), fun y hy => ?_⟩
    rcases mem_own.1 hy with rfl | e | e
    · exact .inl (mem_own.2 (.inl rfl))
    · exact .inl (mem_own.2 (.inr (.inl e)))
    · cases e; exact .inr hlt
theorem intOk_id {x : SV} (h : okS x = true) : IntOk x.id := by have := okS_id h; unfold IntOk; omega
theorem intOk_idp {x : PV} (h : okP x = true) : IntOk x.id := by have := okP_id h; unfold IntOk; omega
-- GEN
set_option maxRecDepth 100000 in
set_option maxHeartbeats 2000000 in
theorem puts_no {w : World} {b : Nat} {m1 m2 : Option Nat} {f : Int → Option SV} {g : Int → Option PV} {n : Nat} (h : St w b m1 m2 f g n) (x : SV) (hx : okS x = false) :
    Calls Tryz.prog 37 #[.pointer (some ⟨b, 0, none⟩), sV x] w (PutPost w b (ownL b m1 m2) 3 f g n) := by
  have CH := hid (show chS x = 3 by unfold chS; rw [hx]; rfl)
  clear hx
  obtain ⟨D, hD⟩ : ∃ D, D = w.heap.size := ⟨_, rfl⟩
  have H := hid h
  have hlt := h.lt
  clear h
  go_enter Tryz.func37, Tryz.ntmps37
  go_upto_region 1 with (fail)
  generalize hw1 : w.alloc _ = w1
  have O1 := hid (show Only [] w w1 from hw1 ▸ (Only.refl [] w).alloc _)
  have A1 := hid (show SAt w1 w.heap.size 0 x from hw1 ▸ SAt.new w x _)
  rw [← hD] at A1 ⊢
  have DL := hid (show D < w1.heap.size by rw [← hw1, hD]; simp)
  have HD := hid hD
  clear hw1 hD
  obtain ⟨a0, a1, a2, a3, a4, a5, a6, a7, a8⟩ := A1.out.all
  go_wp2_with fail
  refine (check6_any x _).mono ?_
  rintro e w2 ⟨rfl, ho2⟩
  rw [CH.out]
  have O2 := hid (O1.out.trans ho2)
  clear ho2 a0 a1 a2 a3 a4 a5 a6 a7 a8
  go_wp2_with fail
  go_ret
  exact ⟨rfl, _, ⟨m1, m2, rfl, H.out.only O2.out (by simp)⟩, O2.out.mono (by simp), fun y hy => .inl hy⟩
set_option maxRecDepth 100000 in
set_option maxHeartbeats 2000000 in
theorem puts_yes {w : World} {b : Nat} {m1 m2 : Option Nat} {f : Int → Option SV} {g : Int → Option PV} {n : Nat} (h : St w b m1 m2 f g n) (x : SV) (hx : okS x = true) (hn : n < maxLen) :
    Calls Tryz.prog 37 #[.pointer (some ⟨b, 0, none⟩), sV x] w (PutPost w b (ownL b m1 m2) 0 (upd f x.id x) g (n + 1)) := by
  have CH := hid (show chS x = 0 by unfold chS; rw [hx]; rfl)
  have HX := hid hx
  have HN := hid hn
  clear hx hn
  obtain ⟨D, hD⟩ : ∃ D, D = w.heap.size := ⟨_, rfl⟩
  have H := hid h
  have hlt := h.lt
  clear h
  go_enter Tryz.func37, Tryz.ntmps37
  go_upto_region 1 with (fail)
  generalize hw1 : w.alloc _ = w1
  have O1 := hid (show Only [] w w1 from hw1 ▸ (Only.refl [] w).alloc _)
  have A1 := hid (show SAt w1 w.heap.size 0 x from hw1 ▸ SAt.new w x _)
  rw [← hD] at A1 ⊢
  have DL := hid (show D < w1.heap.size by rw [← hw1, hD]; simp)
  have HD := hid hD
  clear hw1 hD
  obtain ⟨a0, a1, a2, a3, a4, a5, a6, a7, a8⟩ := A1.out.all
  go_wp2_with fail
  refine (check6_any x _).mono ?_
  rintro e w2 ⟨rfl, ho2⟩
  rw [CH.out]
  have O2 := hid (O1.out.trans ho2)
  clear a0 a1 a2 a3 a4 a5 a6 a7 a8
  obtain ⟨a0, a1, a2, a3, a4, a5, a6, a7, a8⟩ := (A1.out.only ho2 (by simp)).all
  have c0 := (H.out.only O2.out (by simp)).c0
  clear ho2
  go_wp2_with fail
  go_region_with ((go_at_call 81; refine (puts_any (H.out.only (O2.out.drewN _) (by simp)) x _ (intOk_id HX.out) HN.out).mono ?_; (rintro e w3 ⟨rfl, hp⟩)))
  all_goals
    obtain ⟨_, L', hst, ho3, hl'⟩ := (H.out.only (O2.out.drewN _) (by simp)).puts HX.out ⟨rfl, hp⟩
    go_wp2_with fail
    go_ret
    exact ⟨rfl, L', hst, ((O2.out.drewN _).mono (by simp)).trans ho3, fun y hy => (hl' y hy).imp id (fun h => Nat.le_trans O2.out.size h)⟩
theorem PutSps_any {w : World} {b : Nat} {L : List Nat} {f : Int → Option SV} {g : Int → Option PV} {n : Nat} (h : StL w b L f g n) (x : SV) (hx : okS x = true) (hn : n < maxLen) :
    Calls Tryz.prog 37 #[.pointer (some ⟨b, 0, none⟩), sV x] w (PutPost w b L 0 (upd f x.id x) g (n + 1)) := by
  obtain ⟨m1, m2, rfl, h⟩ := h
  exact puts_yes h x hx hn
theorem PutSps_no {w : World} {b : Nat} {L : List Nat} {f : Int → Option SV} {g : Int → Option PV} {n : Nat} (h : StL w b L f g n) (x : SV) (hx : okS x = false) :
    Calls Tryz.prog 37 #[.pointer (some ⟨b, 0, none⟩), sV x] w (PutPost w b L 3 f g n) := by
  obtain ⟨m1, m2, rfl, h⟩ := h
  exact puts_no h x hx
set_option maxRecDepth 100000 in
set_option maxHeartbeats 2000000 in
theorem putp_no {w : World} {b : Nat} {m1 m2 : Option Nat} {f : Int → Option SV} {g : Int → Option PV} {n : Nat} (h : St w b m1 m2 f g n) (x : PV) (hx : okP x = false) :
    Calls Tryz.prog 35 #[.pointer (some ⟨b, 0, none⟩), pV x] w (PutPost w b (ownL b m1 m2) 3 f g n) := by
  have CH := hid (show chP x = 3 by unfold chP; rw [hx]; rfl)
  clear hx
  obtain ⟨D, hD⟩ : ∃ D, D = w.heap.size := ⟨_, rfl⟩
  have H := hid h
  have hlt := h.lt
  clear h
  go_enter Tryz.func35, Tryz.ntmps35
  go_upto_region 1 with (fail)
  generalize hw1 : w.alloc _ = w1
  have O1 := hid (show Only [] w w1 from hw1 ▸ (Only.refl [] w).alloc _)
  have A1 := hid (show PAt w1 w.heap.size 0 x from hw1 ▸ PAt.new w x _)
  rw [← hD] at A1 ⊢
  have DL := hid (show D < w1.heap.size by rw [← hw1, hD]; simp)
  have HD := hid hD
  clear hw1 hD
  obtain ⟨a0, a1, a2, a3, a4, a5, a6, a7, a8, a9⟩ := A1.out.all
  go_wp2_with fail
  refine (check7_any x _).mono ?_
  rintro e w2 ⟨rfl, ho2⟩
  rw [CH.out]
  have O2 := hid (O1.out.trans ho2)
  clear ho2 a0 a1 a2 a3 a4 a5 a6 a7 a8 a9
  go_wp2_with fail
  go_ret
  exact ⟨rfl, _, ⟨m1, m2, rfl, H.out.only O2.out (by simp)⟩, O2.out.mono (by simp), fun y hy => .inl hy⟩
set_option maxRecDepth 100000 in
set_option maxHeartbeats 2000000 in
theorem putp_yes {w : World} {b : Nat} {m1 m2 : Option Nat} {f : Int → Option SV} {g : Int → Option PV} {n : Nat} (h : St w b m1 m2 f g n) (x : PV) (hx : okP x = true) (hn : n < maxLen) :
    Calls Tryz.prog 35 #[.pointer (some ⟨b, 0, none⟩), pV x] w (PutPost w b (ownL b m1 m2) 0 f (upd g x.id x) (n + 1)) := by
  have CH := hid (show chP x = 0 by unfold chP; rw [hx]; rfl)
  have HX := hid hx
  have HN := hid hn
  clear hx hn
  obtain ⟨D, hD⟩ : ∃ D, D = w.heap.size := ⟨_, rfl⟩
  have H := hid h
  have hlt := h.lt
  clear h
  go_enter Tryz.func35, Tryz.ntmps35
  go_upto_region 1 with (fail)
  generalize hw1 : w.alloc _ = w1
  have O1 := hid (show Only [] w w1 from hw1 ▸ (Only.refl [] w).alloc _)
  have A1 := hid (show PAt w1 w.heap.size 0 x from hw1 ▸ PAt.new w x _)
  rw [← hD] at A1 ⊢
  have DL := hid (show D < w1.heap.size by rw [← hw1, hD]; simp)
  have HD := hid hD
  clear hw1 hD
  obtain ⟨a0, a1, a2, a3, a4, a5, a6, a7, a8, a9⟩ := A1.out.all
  go_wp2_with fail
  refine (check7_any x _).mono ?_
  rintro e w2 ⟨rfl, ho2⟩
  rw [CH.out]
  have O2 := hid (O1.out.trans ho2)
  clear a0 a1 a2 a3 a4 a5 a6 a7 a8 a9
  obtain ⟨a0, a1, a2, a3, a4, a5, a6, a7, a8, a9⟩ := (A1.out.only ho2 (by simp)).all
  have c0 := (H.out.only O2.out (by simp)).c1
  clear ho2
  go_wp2_with fail
  go_region_with ((go_at_call 80; refine (putp_any (H.out.only (O2.out.drewN _) (by simp)) x _ (intOk_idp HX.out) HN.out).mono ?_; (rintro e w3 ⟨rfl, hp⟩)))
  all_goals
    obtain ⟨_, L', hst, ho3, hl'⟩ := (H.out.only (O2.out.drewN _) (by simp)).putp HX.out ⟨rfl, hp⟩
    go_wp2_with fail
    go_ret
    exact ⟨rfl, L', hst, ((O2.out.drewN _).mono (by simp)).trans ho3, fun y hy => (hl' y hy).imp id (fun h => Nat.le_trans O2.out.size h)⟩
theorem PutPps_any {w : World} {b : Nat} {L : List Nat} {f : Int → Option SV} {g : Int → Option PV} {n : Nat} (h : StL w b L f g n) (x : PV) (hx : okP x = true) (hn : n < maxLen) :
    Calls Tryz.prog 35 #[.pointer (some ⟨b, 0, none⟩), pV x] w (PutPost w b L 0 f (upd g x.id x) (n + 1)) := by
  obtain ⟨m1, m2, rfl, h⟩ := h
  exact putp_yes h x hx hn
theorem PutPps_no {w : World} {b : Nat} {L : List Nat} {f : Int → Option SV} {g : Int → Option PV} {n : Nat} (h : StL w b L f g n) (x : PV) (hx : okP x = false) :
    Calls Tryz.prog 35 #[.pointer (some ⟨b, 0, none⟩), pV x] w (PutPost w b L 3 f g n) := by
  obtain ⟨m1, m2, rfl, h⟩ := h
  exact putp_no h x hx
end Go.Proofs.YtjjjfmnhdnajkaaGreatDoor

end
section
set_option maxRecDepth 20000
namespace Go.Proofs.YtjjjfmnhdnajkaaGreatDoor
open Go.RowKit Go.Maps
set_option linter.unusedVariables false

set_option maxRecDepth 100000 in
set_option maxHeartbeats 2000000 in
theorem get_out {w : World} (b : Nat) (i : Int) (hi : i < 0 ∨ 32 ≤ i) :
    Calls Tryz.prog 128 #[.pointer (some ⟨b, 0, none⟩), .int .i64 i] w fun e w' => e = .returned (.tuple #[pV p0, sV s0, .int .i64 3]) ∧ Only [] w w' := by
  rcases hi with h1 | h1
  · go_enter Tryz.func128, Tryz.ntmps128
    go_wp2_with fail
    exact bodyPost_ret (v := .tuple #[pV p0, sV s0, .int .i64 3]) (by simp [results, Tryz.results128, go_sem, p0, s0]) rfl ⟨rfl, ((Only.refl [] w).alloc _).alloc _⟩
  · have h0 : ¬ i < 0 := by omega
    go_enter Tryz.func128, Tryz.ntmps128
    go_wp2_with fail
    exact bodyPost_ret (v := .tuple #[pV p0, sV s0, .int .i64 3]) (by simp [results, Tryz.results128, go_sem, p0, s0]) rfl ⟨rfl, ((Only.refl [] w).alloc _).alloc _⟩
set_option maxRecDepth 100000 in
set_option maxHeartbeats 2000000 in
theorem get_nopps {w : World} {b : Nat} {m1 m2 : Option Nat} {f : Int → Option SV} {g : Int → Option PV} {n : Nat} (h : St w b m1 m2 f g n) (i : Int) (h1 : 0 ≤ i) (h2 : i < 32) (hg : g i = none) :
    Calls Tryz.prog 128 #[.pointer (some ⟨b, 0, none⟩), .int .i64 i] w fun e w' => e = .returned (.tuple #[pV p0, sV s0, .int .i64 7]) ∧ Only [] w w' := by
  have c1 : ∀ o1 o2 : Obj, ((w.alloc o1).alloc o2).cell? ⟨b, 1, none⟩ = some (.map m2) := fun o1 o2 => (((Only.refl [] w).alloc o1).alloc o2).cell h.c1 (by simp)
  have L1 := fun o1 o2 : Obj => look_p (w := (w.alloc o1).alloc o2) (MapIn.only h.h2 (((Only.refl [] w).alloc o1).alloc o2) (by simp)) (k := i) (by unfold IntOk; omega) (x := p0) (r := false) (by rw [hg]; rfl) (by rw [hg]; rfl)
  have h0 : ¬ i < 0 := by omega
  clear hg h
  go_enter Tryz.func128, Tryz.ntmps128
  go_wp2_with fail
  exact bodyPost_ret (v := .tuple #[pV p0, sV s0, .int .i64 7]) (by simp [results, Tryz.results128, go_sem, p0, s0]) rfl ⟨rfl, (((Only.refl [] w).alloc _).alloc _).alloc _⟩
set_option maxRecDepth 100000 in
set_option maxHeartbeats 2000000 in
theorem get_nosps {w : World} {b : Nat} {m1 m2 : Option Nat} {f : Int → Option SV} {g : Int → Option PV} {n : Nat} (h : St w b m1 m2 f g n) (i : Int) (h1 : 0 ≤ i) (h2 : i < 32) (p : PV) (hg : g i = some p) (s : SV) (r : Bool) (hs : (f p.sps).getD s0 = s) (hr : (f p.sps).isSome = r) :
    Calls Tryz.prog 128 #[.pointer (some ⟨b, 0, none⟩), .int .i64 i] w fun e w' => e = .returned (.tuple (if r then #[pV p, sV s, .int .i64 0] else #[pV p0, sV s0, .int .i64 7])) ∧ Only [] w w' := by
  have c1 : ∀ o1 o2 : Obj, ((w.alloc o1).alloc o2).cell? ⟨b, 1, none⟩ = some (.map m2) := fun o1 o2 => (((Only.refl [] w).alloc o1).alloc o2).cell h.c1 (by simp)
  have L1 := fun o1 o2 : Obj => look_p (w := (w.alloc o1).alloc o2) (MapIn.only h.h2 (((Only.refl [] w).alloc o1).alloc o2) (by simp)) (k := i) (by unfold IntOk; omega) (x := p) (r := true) (by rw [hg]; rfl) (by rw [hg]; rfl)
  have c0 : ∀ o1 o2 o3 : Obj, (((w.alloc o1).alloc o2).alloc o3).cell? ⟨b, 0, none⟩ = some (.map m1) := fun o1 o2 o3 => ((((Only.refl [] w).alloc o1).alloc o2).alloc o3).cell h.c0 (by simp)
  have c0' : ∀ o1 o2 o3 o4 : Obj, ((((w.alloc o1).alloc o2).alloc o3).alloc o4).cell? ⟨b, 0, none⟩ = some (.map m1) := fun o1 o2 o3 o4 => (((((Only.refl [] w).alloc o1).alloc o2).alloc o3).alloc o4).cell h.c0 (by simp)
  have hp := (h.a2 i p hg).2
  have ik : IntOk p.sps := by have := okP_id hp; unfold IntOk; omega
  have L2 := fun o1 o2 o3 : Obj => look_s (w := ((w.alloc o1).alloc o2).alloc o3) (MapIn.only h.h1 ((((Only.refl [] w).alloc o1).alloc o2).alloc o3) (by simp)) ik hs hr
  have L3 := fun o1 o2 o3 : Obj => look_s (w := (((w.alloc o1).alloc o2).alloc o3).drew) (MapIn.only h.h1 ((((Only.refl [] w).alloc o1).alloc o2).alloc o3).drew (by simp)) ik hs hr
  have L4 := fun o1 o2 o3 o4 : Obj => look_s (w := ((((w.alloc o1).alloc o2).alloc o3).alloc o4).drew) (MapIn.only h.h1 (((((Only.refl [] w).alloc o1).alloc o2).alloc o3).alloc o4).drew (by simp)) ik hs hr
  have h0 : ¬ i < 0 := by omega
  clear hg h hs hr hp ik
  cases r with
  | false =>
    go_enter Tryz.func128, Tryz.ntmps128
    go_wp2_with fail
    go_region
    all_goals
      go_wp2_with fail
      exact bodyPost_ret (v := .tuple #[pV p0, sV s0, .int .i64 7]) (by simp [results, Tryz.results128, go_sem, p0, s0]) rfl ⟨rfl, by first | exact (((((Only.refl [] w).alloc _).alloc _).alloc _).alloc _).drew | exact (((((Only.refl [] w).alloc _).alloc _).alloc _).alloc _).drew.drew | exact (((((Only.refl [] w).alloc _).alloc _).alloc _).alloc _).drewN _⟩
  | true =>
    go_enter Tryz.func128, Tryz.ntmps128
    go_wp2_with fail
    go_region
    all_goals
      go_wp2_with fail
      go_region
      all_goals
        go_wp2_with fail
        exact bodyPost_ret (v := .tuple #[pV p, sV s, .int .i64 0]) (by simp [results, Tryz.results128, go_sem]) rfl ⟨rfl, by first | exact (((((Only.refl [] w).alloc _).alloc _).alloc _).alloc _).drew | exact (((((Only.refl [] w).alloc _).alloc _).alloc _).alloc _).drew.drew | exact (((((Only.refl [] w).alloc _).alloc _).alloc _).alloc _).drewN _⟩
theorem get_any {w : World} {b : Nat} {L : List Nat} {f : Int → Option SV} {g : Int → Option PV} {n : Nat} (h : StL w b L f g n) (i : Int) {p : PV} {s : SV} {e0 : Int} (hr : getR f g i = (p, s, e0)) :
    Calls Tryz.prog 128 #[.pointer (some ⟨b, 0, none⟩), .int .i64 i] w fun e w' => e = .returned (.tuple #[pV p, sV s, .int .i64 e0]) ∧ Only [] w w' := by
  obtain ⟨m1, m2, rfl, h⟩ := h
  unfold getR at hr
  by_cases hi : i < 0 ∨ 32 ≤ i
  · rw [if_pos hi] at hr
    cases hr
    exact get_out b i hi
  · rw [if_neg hi] at hr
    cases hg : g i with
    | none =>
      simp only [hg] at hr
      cases hr
      exact get_nopps h i (by omega) (by omega) hg
    | some q =>
      simp only [hg] at hr
      cases hf : f q.sps with
      | none =>
        simp only [hf] at hr
        cases hr
        exact get_nosps h i (by omega) (by omega) q hg _ false rfl (by rw [hf]; rfl)
      | some z =>
        simp only [hf] at hr
        cases hr
        exact get_nosps h i (by omega) (by omega) p hg s true (by rw [hf]; rfl) (by rw [hf]; rfl)
end Go.Proofs.YtjjjfmnhdnajkaaGreatDoor

end
section
set_option maxRecDepth 20000
namespace Go.Proofs.YtjjjfmnhdnajkaaGreatDoor
open Go.RowKit Go.Maps
set_option linter.unusedVariables false

theorem typeAssert_map {P : Program} (w : World) (t xT : TypeId) {k e : TypeId} (v : Value) (h : P.underlying t = some (.map k e)) : (Instr.typeAssert (.iface t v) xT t false).run P w = .ok v w := by
  simp [Instr.typeAssert, run_underlying h, go_sem, Result.andThen]
theorem ext_clone {P : Program} {w : World} {r : Nat} {es : Array MapEntry} {clock : Nat} (t : TypeId) (hb : w.heap[r]? = some (.map es clock)) :
    (Extern.MapsClone.clone #[.iface t (.map (some r))]).run P w = .ok (.iface t (.map (some w.heap.size))) (w.alloc (.map es clock)) := by
  have e : Extern.MapsClone.clone #[.iface t (.map (some r))] = (getObj r >>= fun o => match o with
      | .map entries clock => (newObj (.map entries clock) >>= fun n => pure (.iface t (.map (some n))))
      | _ => stuck "maps.clone: a map expected") := rfl
  rw [e]
  simp [MapKept.run_getObj_map hb, Result.andThen, go_sem]
/-- A map's copy: a new block, or none. -/
def Clones (m : Option Nat) (n : Nat) (f : Int → Option SV) (w : World) (e : Ending) (w' : World) : Prop := ∃ m', e = .returned (.map m') ∧ MapS w' m' n f ∧ (∀ y, m' = some y → w.heap.size ≤ y) ∧ Only [] w w'
/-- A map's copy: a new block, or none. -/
def Clonep (m : Option Nat) (n : Nat) (f : Int → Option PV) (w : World) (e : Ending) (w' : World) : Prop := ∃ m', e = .returned (.map m') ∧ MapP w' m' n f ∧ (∀ y, m' = some y → w.heap.size ≤ y) ∧ Only [] w w'
theorem St.copied {w wa wb : World} {k1 k2 : Option Nat} {f : Int → Option SV} {g : Int → Option PV} {n : Nat} (T : TypeId) (ow : Only [] w wb) (a1 : AllS f) (a2 : AllP g) (h1 : MapS wb k1 n f) (h2 : MapP wb k2 n g) (l1 : ∀ y, k1 = some y → w.heap.size ≤ y) (l2 : ∀ y, k2 = some y → w.heap.size ≤ y) (ne : ∀ y, k1 = some y → k2 ≠ some y) :
    ∃ c k1' k2', (Ending.returned (.pointer (some ⟨wb.heap.size, 0, none⟩)) = Ending.returned (.pointer (some ⟨c, 0, none⟩))) ∧ St (wb.alloc (.cells #[.map k1, .map k2] T)) c k1' k2' f g n ∧ Only [] w (wb.alloc (.cells #[.map k1, .map k2] T)) ∧ ∀ y, y ∈ ownL c k1' k2' → w.heap.size ≤ y := by
  refine ⟨wb.heap.size, k1, k2, rfl, ⟨by simp, by simp, by simp, by simp, MapIn.only h1 ((Only.refl [] wb).alloc _) (by simp), MapIn.only h2 ((Only.refl [] wb).alloc _) (by simp), (fun y e => by have := MapIn.lt h1 y e; omega), (fun y e => by have := MapIn.lt h2 y e; omega), ne, a1, a2⟩, ow.alloc _, fun y hy => ?_⟩
  rcases mem_own.1 hy with rfl | e | e
  · exact ow.size
  · exact l1 y e
  · exact l2 y e

end Go.Proofs.YtjjjfmnhdnajkaaGreatDoor

end

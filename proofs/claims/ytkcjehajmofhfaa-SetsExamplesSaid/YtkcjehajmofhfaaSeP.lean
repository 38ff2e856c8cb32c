/- The program's store: what it holds; its map's put. -/
import Derived.Test.YtkcjehajmofhfaaSeC
import Derived.Test.YtkcjehajmofhfaaSeD
import Derived.Carry
import Derived.Laws.IdiomMaps
import Derived.Deep.RegionWith
import Derived.Deep.RegionHeld3
import Derived.Deep.DeepCutAuto
namespace Go.Proofs.Ytkcjehajmofhfaa
open Go.RowKit Go.Maps
set_option linter.unusedVariables false

theorem und_int : Try.prog.underlying 3 = some (.int .i64) := by kernel_rfl
theorem und_ms : Try.prog.underlying 58 = some (.map 3 28) := by kernel_rfl
theorem und_mp : Try.prog.underlying 60 = some (.map 3 30) := by kernel_rfl
theorem zero_s (w : World) : (zeroValue 28).run Try.prog w = .ok (sV s0) w := by kernel_rfl
theorem zero_p (w : World) : (zeroValue 30).run Try.prog w = .ok (pV p0) w := by kernel_rfl
abbrev MapS (w : World) (m : Option Nat) (n : Nat) (f : Int → Option SV) : Prop := MapIn Try.prog 3 sV w m n f
abbrev MapP (w : World) (m : Option Nat) (n : Nat) (f : Int → Option PV) : Prop := MapIn Try.prog 3 pV w m n f
theorem look_s {w : World} {m : Option Nat} {n : Nat} {f : Int → Option SV} (h : MapS w m n f) {k : Int} (hk : IntOk k) {x : SV} {r : Bool} (hx : (f k).getD s0 = x) (hr : (f k).isSome = r) :
    (Instr.lookup 58 (.map m) (.int .i64 k) true).run Try.prog w = .ok (.tuple #[sV x, .bool r]) w := by
  subst hx; subst hr; exact MapIn.look h und_int und_ms (fun _ _ => sV_inj) zero_s hk
theorem look_p {w : World} {m : Option Nat} {n : Nat} {f : Int → Option PV} (h : MapP w m n f) {k : Int} (hk : IntOk k) {x : PV} {r : Bool} (hx : (f k).getD p0 = x) (hr : (f k).isSome = r) :
    (Instr.lookup 60 (.map m) (.int .i64 k) true).run Try.prog w = .ok (.tuple #[pV x, .bool r]) w := by
  subst hx; subst hr; exact MapIn.look h und_int und_mp (fun _ _ => pV_inj) zero_p hk
theorem store_s {w : World} {b n : Nat} {f : Int → Option SV} (h : MapS w (some b) n f) (hn : n < maxLen) {k : Int} (hk : IntOk k) (x : SV) :
    ∃ w', (Instr.mapUpdate 58 (.map (some b)) (.int .i64 k) (sV x)).run Try.prog w = .ok () w' ∧ MapS w' (some b) (n + 1) (upd f k x) ∧ Only [b] w w' ∧ w'.heap.size = w.heap.size ∧ (∀ a : Addr, a.block ≠ b → w'.cell? a = w.cell? a ∧ w'.frozen? a = w.frozen? a) :=
  MapAt.store h und_int und_ms (fun _ _ => sV_inj) hn hk x
theorem store_p {w : World} {b n : Nat} {f : Int → Option PV} (h : MapP w (some b) n f) (hn : n < maxLen) {k : Int} (hk : IntOk k) (x : PV) :
    ∃ w', (Instr.mapUpdate 60 (.map (some b)) (.int .i64 k) (pV x)).run Try.prog w = .ok () w' ∧ MapP w' (some b) (n + 1) (upd f k x) ∧ Only [b] w w' ∧ w'.heap.size = w.heap.size ∧ (∀ a : Addr, a.block ≠ b → w'.cell? a = w.cell? a ∧ w'.frozen? a = w.frozen? a) :=
  MapAt.store h und_int und_mp (fun _ _ => pV_inj) hn hk x
theorem equalIn_map {P : Program} (d : Nat) (t : TypeId) {k e : TypeId} (h : P.underlying t = some (.map k e)) (p : Option Nat) (w : World) : (Op.equalIn (d + 1) t (.map p) (.map none)).run P w = .ok p.isNone w := by
  cases p <;> simp [Op.equalIn, run_underlying h]
theorem eql_map {P : Program} (t : TypeId) {k e : TypeId} (h : P.underlying t = some (.map k e)) (p : Option Nat) (w : World) : (binOp .eql t (.map p) (.map none)).run P w = .ok (.bool p.isNone) w := by
  simp only [binOp]
  simp [show Op.equal t (.map p) (.map none) = Op.equalIn (9999 + 1) t (.map p) (.map none) from rfl, equalIn_map 9999 t h p w]

/-- The cells of a parameter set in memory. -/
structure SAt (w : World) (b o : Nat) (x : SV) : Prop where
  c0 : w.cell? ⟨b, o, none⟩ = some (.int .u8 x.pr)
  c1 : w.cell? ⟨b, o + 1, none⟩ = some (.int .u8 x.fl)
  c2 : w.cell? ⟨b, o + 2, none⟩ = some (.int .u8 x.lv)
  c3 : w.cell? ⟨b, o + 3, none⟩ = some (.int .i64 x.id)
  c4 : w.cell? ⟨b, o + 4, none⟩ = some (.int .i64 x.fb)
  c5 : w.cell? ⟨b, o + 5, none⟩ = some (.int .i64 x.pb)
  c6 : w.cell? ⟨b, o + 6, none⟩ = some (.int .i64 x.rf)
  c7 : w.cell? ⟨b, o + 7, none⟩ = some (.int .i64 x.wd)
  c8 : w.cell? ⟨b, o + 8, none⟩ = some (.int .i64 x.ht)
theorem SAt.only {S : List Nat} {w w' : World} {b o : Nat} {x : SV} (h : SAt w b o x) (k : Only S w w') (hb : b ∉ S) : SAt w' b o x :=
  ⟨k.cell h.c0 hb, k.cell h.c1 hb, k.cell h.c2 hb, k.cell h.c3 hb, k.cell h.c4 hb, k.cell h.c5 hb, k.cell h.c6 hb, k.cell h.c7 hb, k.cell h.c8 hb⟩
theorem SAt.new (w : World) (x : SV) (t : TypeId) : SAt (w.alloc (.cells #[.int .u8 x.pr, .int .u8 x.fl, .int .u8 x.lv, .int .i64 x.id, .int .i64 x.fb, .int .i64 x.pb, .int .i64 x.rf, .int .i64 x.wd, .int .i64 x.ht] t)) w.heap.size 0 x :=
  ⟨by simp, by simp, by simp, by simp, by simp, by simp, by simp, by simp, by simp⟩
theorem SAt.all {w : World} {b : Nat} {x : SV} (h : SAt w b 0 x) : w.cell? ⟨b, 0, none⟩ = some (.int .u8 x.pr) ∧ w.cell? ⟨b, 1, none⟩ = some (.int .u8 x.fl) ∧ w.cell? ⟨b, 2, none⟩ = some (.int .u8 x.lv) ∧ w.cell? ⟨b, 3, none⟩ = some (.int .i64 x.id) ∧ w.cell? ⟨b, 4, none⟩ = some (.int .i64 x.fb) ∧ w.cell? ⟨b, 5, none⟩ = some (.int .i64 x.pb) ∧ w.cell? ⟨b, 6, none⟩ = some (.int .i64 x.rf) ∧ w.cell? ⟨b, 7, none⟩ = some (.int .i64 x.wd) ∧ w.cell? ⟨b, 8, none⟩ = some (.int .i64 x.ht) :=
  ⟨by simpa using h.c0, by simpa using h.c1, by simpa using h.c2, by simpa using h.c3, by simpa using h.c4, by simpa using h.c5, by simpa using h.c6, by simpa using h.c7, by simpa using h.c8⟩
/-- The cells of a parameter set in memory. -/
structure PAt (w : World) (b o : Nat) (x : PV) : Prop where
  c0 : w.cell? ⟨b, o, none⟩ = some (.int .i64 x.id)
  c1 : w.cell? ⟨b, o + 1, none⟩ = some (.int .i64 x.sps)
  c2 : w.cell? ⟨b, o + 2, none⟩ = some (.bool x.cab)
  c3 : w.cell? ⟨b, o + 3, none⟩ = some (.int .i64 x.rf)
  c4 : w.cell? ⟨b, o + 4, none⟩ = some (.int .i64 x.r1)
  c5 : w.cell? ⟨b, o + 5, none⟩ = some (.int .i64 x.qp)
  c6 : w.cell? ⟨b, o + 6, none⟩ = some (.int .i64 x.qs)
  c7 : w.cell? ⟨b, o + 7, none⟩ = some (.int .i64 x.ch)
  c8 : w.cell? ⟨b, o + 8, none⟩ = some (.bool x.db)
  c9 : w.cell? ⟨b, o + 9, none⟩ = some (.bool x.nt)
theorem PAt.only {S : List Nat} {w w' : World} {b o : Nat} {x : PV} (h : PAt w b o x) (k : Only S w w') (hb : b ∉ S) : PAt w' b o x :=
  ⟨k.cell h.c0 hb, k.cell h.c1 hb, k.cell h.c2 hb, k.cell h.c3 hb, k.cell h.c4 hb, k.cell h.c5 hb, k.cell h.c6 hb, k.cell h.c7 hb, k.cell h.c8 hb, k.cell h.c9 hb⟩
theorem PAt.new (w : World) (x : PV) (t : TypeId) : PAt (w.alloc (.cells #[.int .i64 x.id, .int .i64 x.sps, .bool x.cab, .int .i64 x.rf, .int .i64 x.r1, .int .i64 x.qp, .int .i64 x.qs, .int .i64 x.ch, .bool x.db, .bool x.nt] t)) w.heap.size 0 x :=
  ⟨by simp, by simp, by simp, by simp, by simp, by simp, by simp, by simp, by simp, by simp⟩
theorem PAt.all {w : World} {b : Nat} {x : PV} (h : PAt w b 0 x) : w.cell? ⟨b, 0, none⟩ = some (.int .i64 x.id) ∧ w.cell? ⟨b, 1, none⟩ = some (.int .i64 x.sps) ∧ w.cell? ⟨b, 2, none⟩ = some (.bool x.cab) ∧ w.cell? ⟨b, 3, none⟩ = some (.int .i64 x.rf) ∧ w.cell? ⟨b, 4, none⟩ = some (.int .i64 x.r1) ∧ w.cell? ⟨b, 5, none⟩ = some (.int .i64 x.qp) ∧ w.cell? ⟨b, 6, none⟩ = some (.int .i64 x.qs) ∧ w.cell? ⟨b, 7, none⟩ = some (.int .i64 x.ch) ∧ w.cell? ⟨b, 8, none⟩ = some (.bool x.db) ∧ w.cell? ⟨b, 9, none⟩ = some (.bool x.nt) :=
  ⟨by simpa using h.c0, by simpa using h.c1, by simpa using h.c2, by simpa using h.c3, by simpa using h.c4, by simpa using h.c5, by simpa using h.c6, by simpa using h.c7, by simpa using h.c8, by simpa using h.c9⟩

/-- What a put does to the map that a cell names. -/
def PutS (b o : Nat) (m : Option Nat) (n : Nat) (f : Int → Option SV) (w : World) (e : Ending) (w' : World) : Prop :=
  e = .returned (.tuple #[]) ∧ ∃ m', MapS w' (some m') n f ∧ w'.cell? ⟨b, o, none⟩ = some (.map (some m')) ∧ w'.frozen? ⟨b, o, none⟩ = false ∧
    (∀ o', o' ≠ o → w'.cell? ⟨b, o', none⟩ = w.cell? ⟨b, o', none⟩ ∧ w'.frozen? ⟨b, o', none⟩ = w.frozen? ⟨b, o', none⟩) ∧ ((m = some m' ∧ Only [m'] w w') ∨ (m = none ∧ w.heap.size ≤ m' ∧ Only [b] w w'))
def PutP (b o : Nat) (m : Option Nat) (n : Nat) (f : Int → Option PV) (w : World) (e : Ending) (w' : World) : Prop :=
  e = .returned (.tuple #[]) ∧ ∃ m', MapP w' (some m') n f ∧ w'.cell? ⟨b, o, none⟩ = some (.map (some m')) ∧ w'.frozen? ⟨b, o, none⟩ = false ∧
    (∀ o', o' ≠ o → w'.cell? ⟨b, o', none⟩ = w.cell? ⟨b, o', none⟩ ∧ w'.frozen? ⟨b, o', none⟩ = w.frozen? ⟨b, o', none⟩) ∧ ((m = some m' ∧ Only [m'] w w') ∨ (m = none ∧ w.heap.size ≤ m' ∧ Only [b] w w'))

set_option maxRecDepth 100000 in
set_option maxHeartbeats 2000000 in
theorem puts_old (b o m n : Nat) (f : Int → Option SV) (k : Int) (x : SV) (w : World) (hc : w.cell? ⟨b, o, none⟩ = some (.map (some m))) (hf : w.frozen? ⟨b, o, none⟩ = false) (hm : MapS w (some m) n f) (hn : n < maxLen) (hk : IntOk k) (hb : b ≠ m) :
    Calls Try.prog 26 #[.pointer (some ⟨b, o, none⟩), .int .i64 k, sV x] w (PutS b o (some m) (n + 1) (upd f k x) w) := by
  obtain ⟨D, hD⟩ : ∃ D, D = w.heap.size := ⟨_, rfl⟩
  have HF := hid hf
  have HB := hid hb
  have HC := hid hc
  have HM := hid hm
  have HL := hid (MapIn.lt hm m rfl)
  have BL := hid (show b < w.heap.size from World.block_lt_of_cell? _ _ hc)
  have EQ := fun w => eql_map (P := Try.prog) _ und_ms (some m) w
  clear hc hf hm hb
  go_enter Try.func26, Try.ntmps26
  go_upto_region 1 with (fail)
  generalize hw1 : w.alloc _ = w1
  have O1 := hid (show Only [] w w1 from hw1 ▸ (Only.refl [] w).alloc _)
  have K1 := hid (show ∀ o', w1.cell? ⟨b, o', none⟩ = w.cell? ⟨b, o', none⟩ ∧ w1.frozen? ⟨b, o', none⟩ = w.frozen? ⟨b, o', none⟩ from fun o' => ⟨World.cell?_of_block (w := w) (O1.out.block b BL.out (by simp)), World.frozen?_of_block (w := w) (O1.out.block b BL.out (by simp))⟩)
  obtain ⟨a0, a1, a2, a3, a4, a5, a6, a7, a8⟩ := SAt.all (show SAt w1 w.heap.size 0 x from hw1 ▸ SAt.new w x _)
  rw [← hD] at a0 a1 a2 a3 a4 a5 a6 a7 a8 ⊢
  have HD := hid hD
  clear hw1 hD
  have c1 := O1.out.cell HC.out (by simp)
  have f1 := (O1.out.frozen (p := ⟨b, o, none⟩) BL.out (by simp)).trans HF.out
  obtain ⟨w2, hrun, hm2, ho2, hs2, hk2⟩ := store_s (MapIn.only HM.out O1.out.drew (by simp)) hn hk x
  have M2 := hid hm2
  have O2 := hid ho2
  have K2 := hid hk2
  have F1 := hid f1
  have C1 := hid c1
  clear hm2 ho2 hs2 hk2 hn hk f1
  go_wp2_with fail
  go_region_with (fail)
  all_goals
    go_wp2_with fail
    (first | refine bodyPost_end (results_none rfl _ _ _) rfl ?_ | refine bodyPost_ret (results_none rfl _ _ _) rfl ?_)
    exact ⟨rfl, m, M2.out, ((K2.out ⟨b, o, none⟩ HB.out).1.trans C1.out), ((K2.out ⟨b, o, none⟩ HB.out).2.trans F1.out), fun o' ho' => ⟨(K2.out ⟨b, o', none⟩ HB.out).1.trans (K1.out o').1, (K2.out ⟨b, o', none⟩ HB.out).2.trans (K1.out o').2⟩, .inl ⟨rfl, ((O1.out.mono (T := [m]) (by simp)).drew).trans O2.out⟩⟩
set_option maxRecDepth 100000 in
set_option maxHeartbeats 2000000 in
theorem puts_nil (b o n : Nat) (f : Int → Option SV) (k : Int) (x : SV) (w : World) (hc : w.cell? ⟨b, o, none⟩ = some (.map none)) (hf : w.frozen? ⟨b, o, none⟩ = false) (hm : MapS w none n f) (hk : IntOk k) :
    Calls Try.prog 26 #[.pointer (some ⟨b, o, none⟩), .int .i64 k, sV x] w (PutS b o none (n + 1) (upd f k x) w) := by
  obtain ⟨D, hD⟩ : ∃ D, D = w.heap.size := ⟨_, rfl⟩
  have HF := hid hf
  have HC := hid hc
  have HM := hid (show f = fun _ => none from hm)
  have BL := hid (show b < w.heap.size from World.block_lt_of_cell? _ _ hc)
  have EQ := fun w => eql_map (P := Try.prog) _ und_ms none w
  have hmm := @run_makeMap Try.prog
  clear hc hf hm
  go_enter Try.func26, Try.ntmps26
  go_upto_region 1 with (fail)
  generalize hw1 : w.alloc _ = w1
  have O1 := hid (show Only [] w w1 from hw1 ▸ (Only.refl [] w).alloc _)
  have K1 := hid (show ∀ o', w1.cell? ⟨b, o', none⟩ = w.cell? ⟨b, o', none⟩ ∧ w1.frozen? ⟨b, o', none⟩ = w.frozen? ⟨b, o', none⟩ from fun o' => ⟨World.cell?_of_block (w := w) (O1.out.block b BL.out (by simp)), World.frozen?_of_block (w := w) (O1.out.block b BL.out (by simp))⟩)
  have A1 := hid (show SAt w1 w.heap.size 0 x from hw1 ▸ SAt.new w x _)
  rw [← hD] at A1 ⊢
  have L1 := hid (show D < w1.heap.size by rw [← hw1, hD]; simp)
  have HD := hid hD
  clear hw1 hD
  have c1 := O1.out.cell HC.out (by simp)
  have f1 := (O1.out.frozen (p := ⟨b, o, none⟩) BL.out (by simp)).trans HF.out
  obtain ⟨E, hE⟩ : ∃ E, E = w1.heap.size := ⟨_, rfl⟩
  have hbE : b ≠ E := by have := O1.out.size; have := BL.out; omega
  have hbD : b ≠ D := by have := BL.out; have := HD.out; omega
  have ca : (w1.alloc (.map #[] 0)).cell? ⟨b, o, none⟩ = some (.map none) := ((Only.refl [] w1).alloc (.map #[] 0)).cell c1 (by simp)
  have fa : (w1.alloc (.map #[] 0)).frozen? ⟨b, o, none⟩ = false := (((Only.refl [] w1).alloc (.map #[] 0)).frozen (p := ⟨b, o, none⟩) (World.block_lt_of_cell? _ _ c1) (by simp)).trans f1
  go_upto_region 3 with (fail)
  generalize hw2 : (w1.alloc (.map #[] 0)).setCell _ _ = w2
  have O2 := hid (show Only [b] w1 w2 from hw2 ▸ ((Only.refl [b] w1).alloc _).setCell (.inl (by simp)) _)
  obtain ⟨a0, a1, a2, a3, a4, a5, a6, a7, a8⟩ := SAt.all (show SAt w2 D 0 x from A1.out.only O2.out (by simpa using Ne.symm hbD))
  have c2 : w2.cell? ⟨b, o, none⟩ = some (.map (some E)) := by rw [← hw2, hE]; exact World.cell?_setCell_same _ _ _ ca
  have f2 : w2.frozen? ⟨b, o, none⟩ = false := by rw [← hw2]; simp; exact fa
  have M2 := hid (show MapS w2 (some E) 0 (fun _ => none) from by
    rw [← hw2, hE]
    exact MapAt.block (MapAt.new w1) (Below.heap_setCell _ _ _ _ (by simp; omega)))
  have K2 := hid (show ∀ o', o' ≠ o → w2.cell? ⟨b, o', none⟩ = w1.cell? ⟨b, o', none⟩ ∧ w2.frozen? ⟨b, o', none⟩ = w1.frozen? ⟨b, o', none⟩ from fun o' ho' => by
    rw [← hw2]
    refine ⟨?_, ?_⟩
    · rw [World.cell?_setCell_other _ _ _ _ (by intro e; injection e; omega)]
      exact World.cell?_of_block (w := w1) (((Only.refl [] w1).alloc (.map #[] 0)).block b (World.block_lt_of_cell? _ _ c1) (by simp))
    · rw [World.frozen?_setCell]
      exact World.frozen?_of_block (w := w1) (((Only.refl [] w1).alloc (.map #[] 0)).block b (World.block_lt_of_cell? _ _ c1) (by simp)))
  have HE := hid hE
  have HBE := hid hbE
  rw [← hE]
  clear hw2 c1 f1 ca fa hbD hE hbE
  obtain ⟨w3, hrun, hm3, ho3, hs3, hk3⟩ := store_s (w := w2.drew) M2.out (by unfold maxLen; omega) hk x
  have M3 := hid hm3
  have O3 := hid ho3
  have K3 := hid hk3
  have F2 := hid f2
  have C2 := hid c2
  clear hm3 ho3 hs3 hk3 hk f2
  go_region_with (fail)
  all_goals
    go_wp2_with fail
    (first | refine bodyPost_end (results_none rfl _ _ _) rfl ?_ | refine bodyPost_ret (results_none rfl _ _ _) rfl ?_)
    have hO : Only [b] w w3 := by
      refine (((O1.out.mono (T := [b]) (by simp)).trans O2.out).drew).trans2 O3.out (fun y hy => .inr ?_)
      rw [List.mem_singleton.1 hy, HE.out]; exact O1.out.size
    exact ⟨rfl, E, by rw [HM.out]; exact M3.out.mono (by omega), ((K3.out ⟨b, o, none⟩ HBE.out).1.trans C2.out), ((K3.out ⟨b, o, none⟩ HBE.out).2.trans F2.out), fun o' ho' => ⟨((K3.out ⟨b, o', none⟩ HBE.out).1.trans (K2.out o' ho').1).trans (K1.out o').1, ((K3.out ⟨b, o', none⟩ HBE.out).2.trans (K2.out o' ho').2).trans (K1.out o').2⟩, .inr ⟨rfl, by rw [HE.out]; exact O1.out.size, hO⟩⟩
set_option maxRecDepth 100000 in
set_option maxHeartbeats 2000000 in
theorem putp_old (b o m n : Nat) (f : Int → Option PV) (k : Int) (x : PV) (w : World) (hc : w.cell? ⟨b, o, none⟩ = some (.map (some m))) (hf : w.frozen? ⟨b, o, none⟩ = false) (hm : MapP w (some m) n f) (hn : n < maxLen) (hk : IntOk k) (hb : b ≠ m) :
    Calls Try.prog 29 #[.pointer (some ⟨b, o, none⟩), .int .i64 k, pV x] w (PutP b o (some m) (n + 1) (upd f k x) w) := by
  obtain ⟨D, hD⟩ : ∃ D, D = w.heap.size := ⟨_, rfl⟩
  have HF := hid hf
  have HB := hid hb
  have HC := hid hc
  have HM := hid hm
  have HL := hid (MapIn.lt hm m rfl)
  have BL := hid (show b < w.heap.size from World.block_lt_of_cell? _ _ hc)
  have EQ := fun w => eql_map (P := Try.prog) _ und_mp (some m) w
  clear hc hf hm hb
  go_enter Try.func29, Try.ntmps29
  go_upto_region 1 with (fail)
  generalize hw1 : w.alloc _ = w1
  have O1 := hid (show Only [] w w1 from hw1 ▸ (Only.refl [] w).alloc _)
  have K1 := hid (show ∀ o', w1.cell? ⟨b, o', none⟩ = w.cell? ⟨b, o', none⟩ ∧ w1.frozen? ⟨b, o', none⟩ = w.frozen? ⟨b, o', none⟩ from fun o' => ⟨World.cell?_of_block (w := w) (O1.out.block b BL.out (by simp)), World.frozen?_of_block (w := w) (O1.out.block b BL.out (by simp))⟩)
  obtain ⟨a0, a1, a2, a3, a4, a5, a6, a7, a8, a9⟩ := PAt.all (show PAt w1 w.heap.size 0 x from hw1 ▸ PAt.new w x _)
  rw [← hD] at a0 a1 a2 a3 a4 a5 a6 a7 a8 a9 ⊢
  have HD := hid hD
  clear hw1 hD
  have c1 := O1.out.cell HC.out (by simp)
  have f1 := (O1.out.frozen (p := ⟨b, o, none⟩) BL.out (by simp)).trans HF.out
  obtain ⟨w2, hrun, hm2, ho2, hs2, hk2⟩ := store_p (MapIn.only HM.out O1.out.drew (by simp)) hn hk x
  have M2 := hid hm2
  have O2 := hid ho2
  have K2 := hid hk2
  have F1 := hid f1
  have C1 := hid c1
  clear hm2 ho2 hs2 hk2 hn hk f1
  go_wp2_with fail
  go_region_with (fail)
  all_goals
    go_wp2_with fail
    (first | refine bodyPost_end (results_none rfl _ _ _) rfl ?_ | refine bodyPost_ret (results_none rfl _ _ _) rfl ?_)
    exact ⟨rfl, m, M2.out, ((K2.out ⟨b, o, none⟩ HB.out).1.trans C1.out), ((K2.out ⟨b, o, none⟩ HB.out).2.trans F1.out), fun o' ho' => ⟨(K2.out ⟨b, o', none⟩ HB.out).1.trans (K1.out o').1, (K2.out ⟨b, o', none⟩ HB.out).2.trans (K1.out o').2⟩, .inl ⟨rfl, ((O1.out.mono (T := [m]) (by simp)).drew).trans O2.out⟩⟩
set_option maxRecDepth 100000 in
set_option maxHeartbeats 2000000 in
theorem putp_nil (b o n : Nat) (f : Int → Option PV) (k : Int) (x : PV) (w : World) (hc : w.cell? ⟨b, o, none⟩ = some (.map none)) (hf : w.frozen? ⟨b, o, none⟩ = false) (hm : MapP w none n f) (hk : IntOk k) :
    Calls Try.prog 29 #[.pointer (some ⟨b, o, none⟩), .int .i64 k, pV x] w (PutP b o none (n + 1) (upd f k x) w) := by
  obtain ⟨D, hD⟩ : ∃ D, D = w.heap.size := ⟨_, rfl⟩
  have HF := hid hf
  have HC := hid hc
  have HM := hid (show f = fun _ => none from hm)
  have BL := hid (show b < w.heap.size from World.block_lt_of_cell? _ _ hc)
  have EQ := fun w => eql_map (P := Try.prog) _ und_mp none w
  have hmm := @run_makeMap Try.prog
  clear hc hf hm
  go_enter Try.func29, Try.ntmps29
  go_upto_region 1 with (fail)
  generalize hw1 : w.alloc _ = w1
  have O1 := hid (show Only [] w w1 from hw1 ▸ (Only.refl [] w).alloc _)
  have K1 := hid (show ∀ o', w1.cell? ⟨b, o', none⟩ = w.cell? ⟨b, o', none⟩ ∧ w1.frozen? ⟨b, o', none⟩ = w.frozen? ⟨b, o', none⟩ from fun o' => ⟨World.cell?_of_block (w := w) (O1.out.block b BL.out (by simp)), World.frozen?_of_block (w := w) (O1.out.block b BL.out (by simp))⟩)
  have A1 := hid (show PAt w1 w.heap.size 0 x from hw1 ▸ PAt.new w x _)
  rw [← hD] at A1 ⊢
  have L1 := hid (show D < w1.heap.size by rw [← hw1, hD]; simp)
  have HD := hid hD
  clear hw1 hD
  have c1 := O1.out.cell HC.out (by simp)
  have f1 := (O1.out.frozen (p := ⟨b, o, none⟩) BL.out (by simp)).trans HF.out
  obtain ⟨E, hE⟩ : ∃ E, E = w1.heap.size := ⟨_, rfl⟩
  have hbE : b ≠ E := by have := O1.out.size; have := BL.out; omega
  have hbD : b ≠ D := by have := BL.out; have := HD.out; omega
  have ca : (w1.alloc (.map #[] 0)).cell? ⟨b, o, none⟩ = some (.map none) := ((Only.refl [] w1).alloc (.map #[] 0)).cell c1 (by simp)
  have fa : (w1.alloc (.map #[] 0)).frozen? ⟨b, o, none⟩ = false := (((Only.refl [] w1).alloc (.map #[] 0)).frozen (p := ⟨b, o, none⟩) (World.block_lt_of_cell? _ _ c1) (by simp)).trans f1
  go_upto_region 3 with (fail)
  generalize hw2 : (w1.alloc (.map #[] 0)).setCell _ _ = w2
  have O2 := hid (show Only [b] w1 w2 from hw2 ▸ ((Only.refl [b] w1).alloc _).setCell (.inl (by simp)) _)
  obtain ⟨a0, a1, a2, a3, a4, a5, a6, a7, a8, a9⟩ := PAt.all (show PAt w2 D 0 x from A1.out.only O2.out (by simpa using Ne.symm hbD))
  have c2 : w2.cell? ⟨b, o, none⟩ = some (.map (some E)) := by rw [← hw2, hE]; exact World.cell?_setCell_same _ _ _ ca
  have f2 : w2.frozen? ⟨b, o, none⟩ = false := by rw [← hw2]; simp; exact fa
  have M2 := hid (show MapP w2 (some E) 0 (fun _ => none) from by
    rw [← hw2, hE]
    exact MapAt.block (MapAt.new w1) (Below.heap_setCell _ _ _ _ (by simp; omega)))
  have K2 := hid (show ∀ o', o' ≠ o → w2.cell? ⟨b, o', none⟩ = w1.cell? ⟨b, o', none⟩ ∧ w2.frozen? ⟨b, o', none⟩ = w1.frozen? ⟨b, o', none⟩ from fun o' ho' => by
    rw [← hw2]
    refine ⟨?_, ?_⟩
    · rw [World.cell?_setCell_other _ _ _ _ (by intro e; injection e; omega)]
      exact World.cell?_of_block (w := w1) (((Only.refl [] w1).alloc (.map #[] 0)).block b (World.block_lt_of_cell? _ _ c1) (by simp))
    · rw [World.frozen?_setCell]
      exact World.frozen?_of_block (w := w1) (((Only.refl [] w1).alloc (.map #[] 0)).block b (World.block_lt_of_cell? _ _ c1) (by simp)))
  have HE := hid hE
  have HBE := hid hbE
  rw [← hE]
  clear hw2 c1 f1 ca fa hbD hE hbE
  obtain ⟨w3, hrun, hm3, ho3, hs3, hk3⟩ := store_p (w := w2.drew) M2.out (by unfold maxLen; omega) hk x
  have M3 := hid hm3
  have O3 := hid ho3
  have K3 := hid hk3
  have F2 := hid f2
  have C2 := hid c2
  clear hm3 ho3 hs3 hk3 hk f2
  go_region_with (fail)
  all_goals
    go_wp2_with fail
    (first | refine bodyPost_end (results_none rfl _ _ _) rfl ?_ | refine bodyPost_ret (results_none rfl _ _ _) rfl ?_)
    have hO : Only [b] w w3 := by
      refine (((O1.out.mono (T := [b]) (by simp)).trans O2.out).drew).trans2 O3.out (fun y hy => .inr ?_)
      rw [List.mem_singleton.1 hy, HE.out]; exact O1.out.size
    exact ⟨rfl, E, by rw [HM.out]; exact M3.out.mono (by omega), ((K3.out ⟨b, o, none⟩ HBE.out).1.trans C2.out), ((K3.out ⟨b, o, none⟩ HBE.out).2.trans F2.out), fun o' ho' => ⟨((K3.out ⟨b, o', none⟩ HBE.out).1.trans (K2.out o' ho').1).trans (K1.out o').1, ((K3.out ⟨b, o', none⟩ HBE.out).2.trans (K2.out o' ho').2).trans (K1.out o').2⟩, .inr ⟨rfl, by rw [HE.out]; exact O1.out.size, hO⟩⟩
end Go.Proofs.Ytkcjehajmofhfaa

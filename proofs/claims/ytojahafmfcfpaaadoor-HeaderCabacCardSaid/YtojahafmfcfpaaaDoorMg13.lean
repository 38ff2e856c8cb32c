/- The program's store: what it holds; its map's put. -/
/- The program's store: New, PutSps, PutPps, Get, Copy. -/
/- The program's store: Get. -/
/- The program's store: Copy. -/
import Derived.Test.YtojahafmfcfpaaaDoorMg2
import Derived.Test.YtojahafmfcfpaaaDoorMg1
import Derived.Carry
import Derived.Laws.IdiomMaps
import Derived.Deep.RegionWith
import Derived.Deep.RegionHeld3
import Derived.Deep.DeepCutAuto
import Derived.Laws.Externs
section
set_option maxRecDepth 20000
namespace Go.Proofs.YtojahafmfcfpaaaDoor
open Go.RowKit Go.Maps
set_option linter.unusedVariables false

theorem und_int : Tryd.prog.underlying 3 = some (.int .i64) := by kernel_rfl
theorem zero_s (w : World) : (zeroValue 29).run Tryd.prog w = .ok (sV s0) w := by kernel_rfl
theorem zero_p (w : World) : (zeroValue 27).run Tryd.prog w = .ok (pV p0) w := by kernel_rfl
abbrev MapS (w : World) (m : Option Nat) (n : Nat) (f : Int → Option SV) : Prop := MapIn Tryd.prog 3 sV w m n f
abbrev MapP (w : World) (m : Option Nat) (n : Nat) (f : Int → Option PV) : Prop := MapIn Tryd.prog 3 pV w m n f
theorem equalIn_map {P : Program} (d : Nat) (t : TypeId) {k e : TypeId} (h : P.underlying t = some (.map k e)) (p : Option Nat) (w : World) : (Op.equalIn (d + 1) t (.map p) (.map none)).run P w = .ok p.isNone w := by
  cases p <;> simp [Op.equalIn, run_underlying h]
theorem eql_map {P : Program} (t : TypeId) {k e : TypeId} (h : P.underlying t = some (.map k e)) (p : Option Nat) (w : World) : (binOp .eql t (.map p) (.map none)).run P w = .ok (.bool p.isNone) w := by
  simp only [binOp]
  simp [show Op.equal t (.map p) (.map none) = Op.equalIn (9999 + 1) t (.map p) (.map none) from rfl, equalIn_map 9999 t h p w]

/-- The cells of a parameter set in memory. -/
structure SAt (w : World) (b o : Nat) (x : SV) : Prop where
  c0 : w.cell? ⟨b, o, none⟩ = some (.int .u8 x.pr)
  c1 : w.cell? ⟨b, o + 1, none⟩ = some (.int .u8 x.fl)
  c2 : w.cell? ⟨b, o + 2, none⟩ = some (.int .u8 x.lv)
  c3 : w.cell? ⟨b, o + 3, none⟩ = some (.int .i64 x.id)
  c4 : w.cell? ⟨b, o + 4, none⟩ = some (.int .i64 x.fb)
  c5 : w.cell? ⟨b, o + 5, none⟩ = some (.int .i64 x.pb)
  c6 : w.cell? ⟨b, o + 6, none⟩ = some (.int .i64 x.rf)
  c7 : w.cell? ⟨b, o + 7, none⟩ = some (.int .i64 x.wd)
  c8 : w.cell? ⟨b, o + 8, none⟩ = some (.int .i64 x.ht)
theorem SAt.only {S : List Nat} {w w' : World} {b o : Nat} {x : SV} (h : SAt w b o x) (k : Only S w w') (hb : b ∉ S) : SAt w' b o x :=
  ⟨k.cell h.c0 hb, k.cell h.c1 hb, k.cell h.c2 hb, k.cell h.c3 hb, k.cell h.c4 hb, k.cell h.c5 hb, k.cell h.c6 hb, k.cell h.c7 hb, k.cell h.c8 hb⟩
theorem SAt.new (w : World) (x : SV) (t : TypeId) : SAt (w.alloc (.cells #[.int .u8 x.pr, .int .u8 x.fl, .int .u8 x.lv, .int .i64 x.id, .int .i64 x.fb, .int .i64 x.pb, .int .i64 x.rf, .int .i64 x.wd, .int .i64 x.ht] t)) w.heap.size 0 x :=
  ⟨by simp, by simp, by simp, by simp, by simp, by simp, by simp, by simp, by simp⟩
theorem SAt.all {w : World} {b : Nat} {x : SV} (h : SAt w b 0 x) : w.cell? ⟨b, 0, none⟩ = some (.int .u8 x.pr) ∧ w.cell? ⟨b, 1, none⟩ = some (.int .u8 x.fl) ∧ w.cell? ⟨b, 2, none⟩ = some (.int .u8 x.lv) ∧ w.cell? ⟨b, 3, none⟩ = some (.int .i64 x.id) ∧ w.cell? ⟨b, 4, none⟩ = some (.int .i64 x.fb) ∧ w.cell? ⟨b, 5, none⟩ = some (.int .i64 x.pb) ∧ w.cell? ⟨b, 6, none⟩ = some (.int .i64 x.rf) ∧ w.cell? ⟨b, 7, none⟩ = some (.int .i64 x.wd) ∧ w.cell? ⟨b, 8, none⟩ = some (.int .i64 x.ht) :=
  ⟨by simpa using h.c0, by simpa using h.c1, by simpa using h.c2, by simpa using h.c3, by simpa using h.c4, by simpa using h.c5, by simpa using h.c6, by simpa using h.c7, by simpa using h.c8⟩
/-- The cells of a parameter set in memory. -/
structure PAt (w : World) (b o : Nat) (x : PV) : Prop where
  c0 : w.cell? ⟨b, o, none⟩ = some (.int .i64 x.id)
  c1 : w.cell? ⟨b, o + 1, none⟩ = some (.int .i64 x.sps)
  c2 : w.cell? ⟨b, o + 2, none⟩ = some (.bool x.cab)
  c3 : w.cell? ⟨b, o + 3, none⟩ = some (.int .i64 x.rf)
  c4 : w.cell? ⟨b, o + 4, none⟩ = some (.int .i64 x.r1)
  c5 : w.cell? ⟨b, o + 5, none⟩ = some (.int .i64 x.qp)
  c6 : w.cell? ⟨b, o + 6, none⟩ = some (.int .i64 x.qs)
  c7 : w.cell? ⟨b, o + 7, none⟩ = some (.int .i64 x.ch)
  c8 : w.cell? ⟨b, o + 8, none⟩ = some (.bool x.db)
  c9 : w.cell? ⟨b, o + 9, none⟩ = some (.bool x.nt)
theorem PAt.only {S : List Nat} {w w' : World} {b o : Nat} {x : PV} (h : PAt w b o x) (k : Only S w w') (hb : b ∉ S) : PAt w' b o x :=
  ⟨k.cell h.c0 hb, k.cell h.c1 hb, k.cell h.c2 hb, k.cell h.c3 hb, k.cell h.c4 hb, k.cell h.c5 hb, k.cell h.c6 hb, k.cell h.c7 hb, k.cell h.c8 hb, k.cell h.c9 hb⟩
theorem PAt.new (w : World) (x : PV) (t : TypeId) : PAt (w.alloc (.cells #[.int .i64 x.id, .int .i64 x.sps, .bool x.cab, .int .i64 x.rf, .int .i64 x.r1, .int .i64 x.qp, .int .i64 x.qs, .int .i64 x.ch, .bool x.db, .bool x.nt] t)) w.heap.size 0 x :=
  ⟨by simp, by simp, by simp, by simp, by simp, by simp, by simp, by simp, by simp, by simp⟩
theorem PAt.all {w : World} {b : Nat} {x : PV} (h : PAt w b 0 x) : w.cell? ⟨b, 0, none⟩ = some (.int .i64 x.id) ∧ w.cell? ⟨b, 1, none⟩ = some (.int .i64 x.sps) ∧ w.cell? ⟨b, 2, none⟩ = some (.bool x.cab) ∧ w.cell? ⟨b, 3, none⟩ = some (.int .i64 x.rf) ∧ w.cell? ⟨b, 4, none⟩ = some (.int .i64 x.r1) ∧ w.cell? ⟨b, 5, none⟩ = some (.int .i64 x.qp) ∧ w.cell? ⟨b, 6, none⟩ = some (.int .i64 x.qs) ∧ w.cell? ⟨b, 7, none⟩ = some (.int .i64 x.ch) ∧ w.cell? ⟨b, 8, none⟩ = some (.bool x.db) ∧ w.cell? ⟨b, 9, none⟩ = some (.bool x.nt) :=
  ⟨by simpa using h.c0, by simpa using h.c1, by simpa using h.c2, by simpa using h.c3, by simpa using h.c4, by simpa using h.c5, by simpa using h.c6, by simpa using h.c7, by simpa using h.c8, by simpa using h.c9⟩

/-- What a put does to the map that a cell names. -/
def PutS (b o : Nat) (m : Option Nat) (n : Nat) (f : Int → Option SV) (w : World) (e : Ending) (w' : World) : Prop :=
  e = .returned (.tuple #[]) ∧ ∃ m', MapS w' (some m') n f ∧ w'.cell? ⟨b, o, none⟩ = some (.map (some m')) ∧ w'.frozen? ⟨b, o, none⟩ = false ∧
    (∀ o', o' ≠ o → w'.cell? ⟨b, o', none⟩ = w.cell? ⟨b, o', none⟩ ∧ w'.frozen? ⟨b, o', none⟩ = w.frozen? ⟨b, o', none⟩) ∧ ((m = some m' ∧ Only [m'] w w') ∨ (m = none ∧ w.heap.size ≤ m' ∧ Only [b] w w'))
def PutP (b o : Nat) (m : Option Nat) (n : Nat) (f : Int → Option PV) (w : World) (e : Ending) (w' : World) : Prop :=
  e = .returned (.tuple #[]) ∧ ∃ m', MapP w' (some m') n f ∧ w'.cell? ⟨b, o, none⟩ = some (.map (some m')) ∧ w'.frozen? ⟨b, o, none⟩ = false ∧
    (∀ o', o' ≠ o → w'.cell? ⟨b, o', none⟩ = w.cell? ⟨b, o', none⟩ ∧ w'.frozen? ⟨b, o', none⟩ = w.frozen? ⟨b, o', none⟩) ∧ ((m = some m' ∧ Only [m'] w w') ∨ (m = none ∧ w.heap.size ≤ m' ∧ Only [b] w w'))

end Go.Proofs.YtojahafmfcfpaaaDoor

end
section
set_option maxRecDepth 20000
namespace Go.Proofs.YtojahafmfcfpaaaDoor
open Go.RowKit Go.Maps
set_option linter.unusedVariables false

/-- The store at block b: its maps' blocks, what they hold, and at most how many entries. -/
structure St (w : World) (b : Nat) (m1 m2 : Option Nat) (f : Int → Option SV) (g : Int → Option PV) (n : Nat) : Prop where
  c0 : w.cell? ⟨b, 0, none⟩ = some (.map m1)
  c1 : w.cell? ⟨b, 1, none⟩ = some (.map m2)
  f0 : w.frozen? ⟨b, 0, none⟩ = false
  f1 : w.frozen? ⟨b, 1, none⟩ = false
  h1 : MapS w m1 n f
  h2 : MapP w m2 n g
  n1 : ∀ y, m1 = some y → y ≠ b
  n2 : ∀ y, m2 = some y → y ≠ b
  ne : ∀ y, m1 = some y → m2 ≠ some y
  a1 : AllS f
  a2 : AllP g
def ownL (b : Nat) (m1 m2 : Option Nat) : List Nat := b :: (m1.toList ++ m2.toList)
theorem mem_own {b y : Nat} {m1 m2 : Option Nat} : y ∈ ownL b m1 m2 ↔ y = b ∨ m1 = some y ∨ m2 = some y := by
  cases m1 <;> cases m2 <;> simp [ownL, eq_comm]
/-- .. all its blocks are in L. -/
def StL (w : World) (b : Nat) (L : List Nat) (f : Int → Option SV) (g : Int → Option PV) (n : Nat) : Prop := ∃ m1 m2, L = ownL b m1 m2 ∧ St w b m1 m2 f g n
theorem St.lt {w : World} {b : Nat} {m1 m2 : Option Nat} {f : Int → Option SV} {g : Int → Option PV} {n : Nat} (h : St w b m1 m2 f g n) : b < w.heap.size := World.block_lt_of_cell? _ _ h.c0
theorem St.only {S : List Nat} {w w' : World} {b : Nat} {m1 m2 : Option Nat} {f : Int → Option SV} {g : Int → Option PV} {n : Nat} (h : St w b m1 m2 f g n) (k : Only S w w') (hs : ∀ y, y ∈ ownL b m1 m2 → y ∉ S) : St w' b m1 m2 f g n :=
  have hb : b ∉ S := hs b (mem_own.2 (.inl rfl))
  ⟨k.cell h.c0 hb, k.cell h.c1 hb, (k.frozen (p := ⟨b, 0, none⟩) h.lt hb).trans h.f0, (k.frozen (p := ⟨b, 1, none⟩) h.lt hb).trans h.f1, MapIn.only h.h1 k (fun y e => hs y (mem_own.2 (.inr (.inl e)))), MapIn.only h.h2 k (fun y e => hs y (mem_own.2 (.inr (.inr e)))), h.n1, h.n2, h.ne, h.a1, h.a2⟩
theorem St.mono {w : World} {b : Nat} {m1 m2 : Option Nat} {f : Int → Option SV} {g : Int → Option PV} {n n' : Nat} (h : St w b m1 m2 f g n) (hn : n ≤ n') : St w b m1 m2 f g n' :=
  ⟨h.c0, h.c1, h.f0, h.f1, MapIn.mono h.h1 hn, MapIn.mono h.h2 hn, h.n1, h.n2, h.ne, h.a1, h.a2⟩
theorem StL.only {S : List Nat} {w w' : World} {b : Nat} {L : List Nat} {f : Int → Option SV} {g : Int → Option PV} {n : Nat} (h : StL w b L f g n) (k : Only S w w') (hs : ∀ y, y ∈ L → y ∉ S) : StL w' b L f g n := by
  obtain ⟨m1, m2, rfl, h⟩ := h; exact ⟨m1, m2, rfl, h.only k hs⟩
theorem StL.mono {w : World} {b : Nat} {L : List Nat} {f : Int → Option SV} {g : Int → Option PV} {n n' : Nat} (h : StL w b L f g n) (hn : n ≤ n') : StL w b L f g n' := by
  obtain ⟨m1, m2, rfl, h⟩ := h; exact ⟨m1, m2, rfl, h.mono hn⟩
theorem StL.lt {w : World} {b : Nat} {L : List Nat} {f : Int → Option SV} {g : Int → Option PV} {n : Nat} (h : StL w b L f g n) : ∀ y, y ∈ L → y < w.heap.size := by
  obtain ⟨m1, m2, rfl, h⟩ := h
  intro y hy
  rcases mem_own.1 hy with rfl | e | e
  · exact h.lt
  · exact MapIn.lt h.h1 y e
  · exact MapIn.lt h.h2 y e
theorem StL.mem {w : World} {b : Nat} {L : List Nat} {f : Int → Option SV} {g : Int → Option PV} {n : Nat} (h : StL w b L f g n) : b ∈ L := by
  obtain ⟨m1, m2, rfl, h⟩ := h; exact mem_own.2 (.inl rfl)

/-- What a put does. -/
def PutPost (w : World) (b : Nat) (L : List Nat) (r : Int) (f : Int → Option SV) (g : Int → Option PV) (n : Nat) (e : Ending) (w' : World) : Prop :=
  e = .returned (.int .i64 r) ∧ ∃ L', StL w' b L' f g n ∧ Only L w w' ∧ ∀ y, y ∈ L' → y ∈ L ∨ w.heap.size ≤ y
theorem St.puts {w w' : World} {b : Nat} {m1 m2 : Option Nat} {f : Int → Option SV} {g : Int → Option PV} {n : Nat} (h : St w b m1 m2 f g n) {x : SV} {e : Ending} (hx : okS x = true) (hp : PutS b 0 m1 (n + 1) (upd f x.id x) w e w') :
    e = .returned (.tuple #[]) ∧ ∃ L', StL w' b L' (upd f x.id x) g (n + 1) ∧ Only (ownL b m1 m2) w w' ∧ ∀ y, y ∈ L' → y ∈ ownL b m1 m2 ∨ w.heap.size ≤ y := by
  obtain ⟨he, m', hM, hc, hf, hk, ho⟩ := hp
  obtain ⟨k1, k2⟩ := hk 1 (by omega)
  have hb := h.lt
  rcases ho with ⟨rfl, ho⟩ | ⟨rfl, hlt, ho⟩
  · refine ⟨he, ownL b (some m') m2, ⟨some m', m2, rfl, hc, k1.trans h.c1, hf, k2.trans h.f1, hM, (MapIn.only h.h2 ho (fun y e hy => h.ne m' rfl (by rw [e, List.mem_singleton.1 hy]))).mono (by omega), h.n1, h.n2, h.ne, h.a1.upd hx, h.a2⟩, ho.mono (fun y _ hy => by rw [List.mem_singleton.1 hy]; exact mem_own.2 (.inr (.inl rfl))), fun y hy => .inl hy⟩
  · refine ⟨he, ownL b (some m') m2, ⟨some m', m2, rfl, hc, k1.trans h.c1, hf, k2.trans h.f1, hM, (MapIn.only h.h2 ho (fun y e hy => h.n2 y e (List.mem_singleton.1 hy))).mono (by omega), fun y e => by cases e; omega, h.n2, fun y e e2 => by cases e; have := MapIn.lt h.h2 m' e2; omega, h.a1.upd hx, h.a2⟩, ho.mono (fun y _ hy => by rw [List.mem_singleton.1 hy]; exact mem_own.2 (.inl rfl)), fun y hy => ?_⟩
    rcases mem_own.1 hy with rfl | e | e
    · exact .inl (mem_own.2 (.inl rfl))
    · cases e; exact .inr hlt
    · exact .inl (mem_own.2 (.inr (.inr e)))
theorem St.putp {w w' : World} {b : Nat} {m1 m2 : Option Nat} {f : Int → Option SV} {g : Int → Option PV} {n : Nat} (h : St w b m1 m2 f g n) {x : PV} {e : Ending} (hx : okP x = true) (hp : PutP b 1 m2 (n + 1) (upd g x.id x) w e w') :
    e = .returned (.tuple #[]) ∧ ∃ L', StL w' b L' f (upd g x.id x) (n + 1) ∧ Only (ownL b m1 m2) w w' ∧ ∀ y, y ∈ L' → y ∈ ownL b m1 m2 ∨ w.heap.size ≤ y := by
  obtain ⟨he, m', hM, hc, hf, hk, ho⟩ := hp
  obtain ⟨k1, k2⟩ := hk 0 (by omega)
  have hb := h.lt
  rcases ho with ⟨rfl, ho⟩ | ⟨rfl, hlt, ho⟩
  · refine ⟨he, ownL b m1 (some m'), ⟨m1, some m', rfl, k1.trans h.c0, hc, k2.trans h.f0, hf, (MapIn.only h.h1 ho (fun y e hy => h.ne y e (by rw [List.mem_singleton.1 hy]))).mono (by omega), hM, h.n1, h.n2, h.ne, h.a1, h.a2.upd hx⟩, ho.mono (fun y _ hy => by rw [List.mem_singleton.1 hy]; exact mem_own.2 (.inr (.inr rfl))), fun y hy => .inl hy⟩
  · refine ⟨he, ownL b m1 (some m'), ⟨m1, some m', rfl, k1.trans h.c0, hc, k2.trans h.f0, hf, (MapIn.only h.h1 ho (fun y e hy => h.n1 y e (List.mem_singleton.1 hy))).mono (by omega), hM, h.n1, fun y e => by cases e; omega, fun y e e2 => by cases e2; have := MapIn.lt h.h1 m' e; omega, h.a1, h.a2.upd hx⟩, ho.mono (fun y _ hy => by rw [List.mem_singleton.1 hy]; exact mem_own.2 (.inl rfl)), fun y hy => ?_⟩
    rcases mem_own.1 hy with rfl | e | e
    · exact .inl (mem_own.2 (.inl rfl))
    · exact .inl (mem_own.2 (.inr (.inl e)))
    · cases e; exact .inr hlt
theorem intOk_id {x : SV} (h : okS x = true) : IntOk x.id := by have := okS_id h; unfold IntOk; omega
theorem intOk_idp {x : PV} (h : okP x = true) : IntOk x.id := by have := okP_id h; unfold IntOk; omega
-- GEN
end Go.Proofs.YtojahafmfcfpaaaDoor

end
section
set_option maxRecDepth 20000
namespace Go.Proofs.YtojahafmfcfpaaaDoor
open Go.RowKit Go.Maps
set_option linter.unusedVariables false

end Go.Proofs.YtojahafmfcfpaaaDoor

end
section
set_option maxRecDepth 20000
namespace Go.Proofs.YtojahafmfcfpaaaDoor
open Go.RowKit Go.Maps
set_option linter.unusedVariables false

theorem typeAssert_map {P : Program} (w : World) (t xT : TypeId) {k e : TypeId} (v : Value) (h : P.underlying t = some (.map k e)) : (Instr.typeAssert (.iface t v) xT t false).run P w = .ok v w := by
  simp [Instr.typeAssert, run_underlying h, go_sem, Result.andThen]
theorem ext_clone {P : Program} {w : World} {r : Nat} {es : Array MapEntry} {clock : Nat} (t : TypeId) (hb : w.heap[r]? = some (.map es clock)) :
    (Extern.MapsClone.clone #[.iface t (.map (some r))]).run P w = .ok (.iface t (.map (some w.heap.size))) (w.alloc (.map es clock)) := by
  have e : Extern.MapsClone.clone #[.iface t (.map (some r))] = (getObj r >>= fun o => match o with
      | .map entries clock => (newObj (.map entries clock) >>= fun n => pure (.iface t (.map (some n))))
      | _ => stuck "maps.clone: a map expected") := rfl
  rw [e]
  simp [MapKept.run_getObj_map hb, Result.andThen, go_sem]
/-- A map's copy: a new block, or none. -/
def Clones (m : Option Nat) (n : Nat) (f : Int → Option SV) (w : World) (e : Ending) (w' : World) : Prop := ∃ m', e = .returned (.map m') ∧ MapS w' m' n f ∧ (∀ y, m' = some y → w.heap.size ≤ y) ∧ Only [] w w'
/-- A map's copy: a new block, or none. -/
def Clonep (m : Option Nat) (n : Nat) (f : Int → Option PV) (w : World) (e : Ending) (w' : World) : Prop := ∃ m', e = .returned (.map m') ∧ MapP w' m' n f ∧ (∀ y, m' = some y → w.heap.size ≤ y) ∧ Only [] w w'
theorem St.copied {w wa wb : World} {k1 k2 : Option Nat} {f : Int → Option SV} {g : Int → Option PV} {n : Nat} (T : TypeId) (ow : Only [] w wb) (a1 : AllS f) (a2 : AllP g) (h1 : MapS wb k1 n f) (h2 : MapP wb k2 n g) (l1 : ∀ y, k1 = some y → w.heap.size ≤ y) (l2 : ∀ y, k2 = some y → w.heap.size ≤ y) (ne : ∀ y, k1 = some y → k2 ≠ some y) :
    ∃ c k1' k2', (Ending.returned (.pointer (some ⟨wb.heap.size, 0, none⟩)) = Ending.returned (.pointer (some ⟨c, 0, none⟩))) ∧ St (wb.alloc (.cells #[.map k1, .map k2] T)) c k1' k2' f g n ∧ Only [] w (wb.alloc (.cells #[.map k1, .map k2] T)) ∧ ∀ y, y ∈ ownL c k1' k2' → w.heap.size ≤ y := by
  refine ⟨wb.heap.size, k1, k2, rfl, ⟨by simp, by simp, by simp, by simp, MapIn.only h1 ((Only.refl [] wb).alloc _) (by simp), MapIn.only h2 ((Only.refl [] wb).alloc _) (by simp), (fun y e => by have := MapIn.lt h1 y e; omega), (fun y e => by have := MapIn.lt h2 y e; omega), ne, a1, a2⟩, ow.alloc _, fun y hy => ?_⟩
  rcases mem_own.1 hy with rfl | e | e
  · exact ow.size
  · exact l1 y e
  · exact l2 y e

end Go.Proofs.YtojahafmfcfpaaaDoor

end

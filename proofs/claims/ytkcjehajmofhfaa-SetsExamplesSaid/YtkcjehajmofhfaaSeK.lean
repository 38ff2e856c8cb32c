/- The program's store: Copy. -/
import Derived.Test.YtkcjehajmofhfaaSeQ
import Derived.Laws.Externs
namespace Go.Proofs.Ytkcjehajmofhfaa
open Go.RowKit Go.Maps
set_option linter.unusedVariables false

theorem typeAssert_map {P : Program} (w : World) (t xT : TypeId) {k e : TypeId} (v : Value) (h : P.underlying t = some (.map k e)) : (Instr.typeAssert (.iface t v) xT t false).run P w = .ok v w := by
  simp [Instr.typeAssert, run_underlying h, go_sem, Result.andThen]
theorem ext_clone {P : Program} {w : World} {r : Nat} {es : Array MapEntry} {clock : Nat} (t : TypeId) (hb : w.heap[r]? = some (.map es clock)) :
    (Extern.MapsClone.clone #[.iface t (.map (some r))]).run P w = .ok (.iface t (.map (some w.heap.size))) (w.alloc (.map es clock)) := by
  have e : Extern.MapsClone.clone #[.iface t (.map (some r))] = (getObj r >>= fun o => match o with
      | .map entries clock => (newObj (.map entries clock) >>= fun n => pure (.iface t (.map (some n))))
      | _ => stuck "maps.clone: a map expected") := rfl
  rw [e]
  simp [MapKept.run_getObj_map hb, Result.andThen, go_sem]
/-- A map's copy: a new block, or none. -/
def Clones (m : Option Nat) (n : Nat) (f : Int → Option SV) (w : World) (e : Ending) (w' : World) : Prop := ∃ m', e = .returned (.map m') ∧ MapS w' m' n f ∧ (∀ y, m' = some y → w.heap.size ≤ y) ∧ Only [] w w'
set_option maxHeartbeats 2000000 in
theorem clones_nil (n : Nat) (f : Int → Option SV) (w : World) (hm : MapS w none n f) : Calls Try.prog 32 #[.map none] w (Clones none n f w) := by
  have EQ := fun w => eql_map (P := Try.prog) _ und_ms none w
  go_enter Try.func32, Try.ntmps32
  go_wp2
  go_ret
  exact ⟨none, rfl, hm, (fun y h => by cases h), Only.refl _ _⟩
set_option maxHeartbeats 2000000 in
theorem clones_some (m n : Nat) (f : Int → Option SV) (w : World) (hm : MapS w (some m) n f) : Calls Try.prog 32 #[.map (some m)] w (Clones (some m) n f w) := by
  have EQ := fun w => eql_map (P := Try.prog) _ und_ms (some m) w
  obtain ⟨M, ⟨es, clock, hb, F, hs, hD⟩, hr⟩ := hm
  go_enter Try.func32, Try.ntmps32
  go_wp2
  rw [run_callFunc_extern Try.func39 (by kernel_rfl) (by kernel_rfl) (by kernel_rfl) (e := Extern.MapsClone.clone) (by kernel_rfl), ext_clone _ hb]
  simp only [Result.andThen]
  rw [Oper.upon_value]
  go_wp2
  rw [typeAssert_map _ _ _ _ und_ms]
  simp only [Result.andThen]
  rw [Oper.upon_value]
  go_wp2
  go_ret
  exact ⟨some w.heap.size, rfl, ⟨M, ⟨es, clock, (MapKept.heap_alloc w _).1, F, hs, hD⟩, hr⟩, (fun y h => by cases h; exact Nat.le_refl _), (Only.refl _ _).alloc _⟩
theorem clones_any (m : Option Nat) (n : Nat) (f : Int → Option SV) (w : World) (hm : MapS w m n f) : Calls Try.prog 32 #[.map m] w (Clones m n f w) := by
  cases m with
  | none => exact clones_nil n f w hm
  | some m => exact clones_some m n f w hm
/-- A map's copy: a new block, or none. -/
def Clonep (m : Option Nat) (n : Nat) (f : Int → Option PV) (w : World) (e : Ending) (w' : World) : Prop := ∃ m', e = .returned (.map m') ∧ MapP w' m' n f ∧ (∀ y, m' = some y → w.heap.size ≤ y) ∧ Only [] w w'
set_option maxHeartbeats 2000000 in
theorem clonep_nil (n : Nat) (f : Int → Option PV) (w : World) (hm : MapP w none n f) : Calls Try.prog 33 #[.map none] w (Clonep none n f w) := by
  have EQ := fun w => eql_map (P := Try.prog) _ und_mp none w
  go_enter Try.func33, Try.ntmps33
  go_wp2
  go_ret
  exact ⟨none, rfl, hm, (fun y h => by cases h), Only.refl _ _⟩
set_option maxHeartbeats 2000000 in
theorem clonep_some (m n : Nat) (f : Int → Option PV) (w : World) (hm : MapP w (some m) n f) : Calls Try.prog 33 #[.map (some m)] w (Clonep (some m) n f w) := by
  have EQ := fun w => eql_map (P := Try.prog) _ und_mp (some m) w
  obtain ⟨M, ⟨es, clock, hb, F, hs, hD⟩, hr⟩ := hm
  go_enter Try.func33, Try.ntmps33
  go_wp2
  rw [run_callFunc_extern Try.func39 (by kernel_rfl) (by kernel_rfl) (by kernel_rfl) (e := Extern.MapsClone.clone) (by kernel_rfl), ext_clone _ hb]
  simp only [Result.andThen]
  rw [Oper.upon_value]
  go_wp2
  rw [typeAssert_map _ _ _ _ und_mp]
  simp only [Result.andThen]
  rw [Oper.upon_value]
  go_wp2
  go_ret
  exact ⟨some w.heap.size, rfl, ⟨M, ⟨es, clock, (MapKept.heap_alloc w _).1, F, hs, hD⟩, hr⟩, (fun y h => by cases h; exact Nat.le_refl _), (Only.refl _ _).alloc _⟩
theorem clonep_any (m : Option Nat) (n : Nat) (f : Int → Option PV) (w : World) (hm : MapP w m n f) : Calls Try.prog 33 #[.map m] w (Clonep m n f w) := by
  cases m with
  | none => exact clonep_nil n f w hm
  | some m => exact clonep_some m n f w hm
theorem St.copied {w wa wb : World} {k1 k2 : Option Nat} {f : Int → Option SV} {g : Int → Option PV} {n : Nat} (T : TypeId) (ow : Only [] w wb) (a1 : AllS f) (a2 : AllP g) (h1 : MapS wb k1 n f) (h2 : MapP wb k2 n g) (l1 : ∀ y, k1 = some y → w.heap.size ≤ y) (l2 : ∀ y, k2 = some y → w.heap.size ≤ y) (ne : ∀ y, k1 = some y → k2 ≠ some y) :
    ∃ c k1' k2', (Ending.returned (.pointer (some ⟨wb.heap.size, 0, none⟩)) = Ending.returned (.pointer (some ⟨c, 0, none⟩))) ∧ St (wb.alloc (.cells #[.map k1, .map k2] T)) c k1' k2' f g n ∧ Only [] w (wb.alloc (.cells #[.map k1, .map k2] T)) ∧ ∀ y, y ∈ ownL c k1' k2' → w.heap.size ≤ y := by
  refine ⟨wb.heap.size, k1, k2, rfl, ⟨by simp, by simp, by simp, by simp, MapIn.only h1 ((Only.refl [] wb).alloc _) (by simp), MapIn.only h2 ((Only.refl [] wb).alloc _) (by simp), (fun y e => by have := MapIn.lt h1 y e; omega), (fun y e => by have := MapIn.lt h2 y e; omega), ne, a1, a2⟩, ow.alloc _, fun y hy => ?_⟩
  rcases mem_own.1 hy with rfl | e | e
  · exact ow.size
  · exact l1 y e
  · exact l2 y e

set_option maxRecDepth 100000 in
set_option maxHeartbeats 4000000 in
theorem copy_st {w : World} {b : Nat} {m1 m2 : Option Nat} {f : Int → Option SV} {g : Int → Option PV} {n : Nat} (h : St w b m1 m2 f g n) :
    Calls Try.prog 15 #[.pointer (some ⟨b, 0, none⟩)] w fun e w' => ∃ c k1 k2, e = .returned (.pointer (some ⟨c, 0, none⟩)) ∧ St w' c k1 k2 f g n ∧ Only [] w w' ∧ ∀ y, y ∈ ownL c k1 k2 → w.heap.size ≤ y := by
  have HS := hid (fun w' (k : Only [] w w') => (MapIn.only h.h1 k (by simp) : MapS w' m1 n f))
  have HP := hid (fun w' (k : Only [] w w') => (MapIn.only h.h2 k (by simp) : MapP w' m2 n g))
  have HC := hid (fun w' (k : Only [] w w') => And.intro (k.cell h.c0 (by simp)) (k.cell h.c1 (by simp)))
  have H := hid h
  have c0 := h.c0
  have c1 := h.c1
  clear h
  go_enter Try.func15, Try.ntmps15
  go_wp2_with fail
  go_region_with (first | (go_at_call 32; refine (clones_any m1 n f _ (HS.out _ ?_)).mono ?_; (first | exact OB.out.drewN _ | exact OB.out.drew | exact OB.out | exact (Only.refl [] _).drewN _ | exact (Only.refl [] _).drew | exact Only.refl _ _); rintro e wa ⟨k1, rfl, hma, hla, hoa⟩; have OA := hid (show Only [] w wa from Only.trans (by (first | exact OB.out.drewN _ | exact OB.out.drew | exact OB.out | exact (Only.refl [] _).drewN _ | exact (Only.refl [] _).drew | exact Only.refl _ _)) hoa); obtain ⟨ca0, ca1⟩ := HC.out _ OA.out) | (go_at_call 33; refine (clonep_any m2 n g _ (HP.out _ ?_)).mono ?_; (first | exact OA.out.drewN _ | exact OA.out.drew | exact OA.out | exact (Only.refl [] _).drewN _ | exact (Only.refl [] _).drew | exact Only.refl _ _); rintro e wb ⟨k2, rfl, hmb, hlb, hob⟩; have OB := hid (show Only [] w wb from Only.trans (by (first | exact OA.out.drewN _ | exact OA.out.drew | exact OA.out | exact (Only.refl [] _).drewN _ | exact (Only.refl [] _).drew | exact Only.refl _ _)) hob); obtain ⟨cb0, cb1⟩ := HC.out _ OB.out))
  all_goals
    go_wp2_with fail
    go_frame
    go_ret
    first
      | exact St.copied (wa := wa) _ OB.out H.out.a1 H.out.a2 (MapIn.only hma hob (by simp)) hmb hla (fun y e => Nat.le_trans OA.out.size (hlb y e)) (fun y e1 e2 => by have := MapIn.lt hma y e1; have := hlb y e2; omega)
      | exact St.copied (wa := wb) _ OA.out H.out.a1 H.out.a2 hma (MapIn.only hmb hoa (by simp)) (fun y e => Nat.le_trans OB.out.size (hla y e)) hlb (fun y e1 e2 => by have := MapIn.lt hmb y e2; have := hla y e1; omega)
theorem copy_any {w : World} {b : Nat} {L : List Nat} {f : Int → Option SV} {g : Int → Option PV} {n : Nat} (h : StL w b L f g n) :
    Calls Try.prog 15 #[.pointer (some ⟨b, 0, none⟩)] w fun e w' => ∃ c L', e = .returned (.pointer (some ⟨c, 0, none⟩)) ∧ StL w' c L' f g n ∧ Only [] w w' ∧ ∀ y, y ∈ L' → w.heap.size ≤ y := by
  obtain ⟨m1, m2, rfl, h⟩ := h
  refine (copy_st h).mono ?_
  rintro e w' ⟨c, k1, k2, rfl, hs, ho, hl⟩
  exact ⟨c, _, rfl, ⟨k1, k2, rfl, hs⟩, ho, hl⟩
end Go.Proofs.Ytkcjehajmofhfaa

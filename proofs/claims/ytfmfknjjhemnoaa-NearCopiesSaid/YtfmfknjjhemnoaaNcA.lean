/- Numbers of a row of macroblocks that are changed in place. -/
import Derived.Test.YtfmfknjjhemnoaaNiA
namespace Go.Proofs.Ytfmfknjjhemnoaa
open Go.RowKit
set_option linter.unusedVariables false
set_option linter.unusedSimpArgs false

theorem el_set : ∀ (L : List El) (k : Nat) (e e' : El) (off : Nat) (v : Value), L[k]? = some e → (elC e).set off v = elC e' → off < 29 → (cellsG elC L).set (k * 29 + off) v = cellsG elC (L.set k e')
  | [], k, e, e', off, v, h, _, _ => by simp at h
  | a :: L, 0, e, e', off, v, h, he, ho => by
    have h : a = e := by simpa using h
    subst h
    rw [List.set_cons_zero, cellsG, cellsG, ← he, Nat.zero_mul, Nat.zero_add, List.set_append_left _ _ (by rw [elC_ok.len]; exact ho)]
  | a :: L, k + 1, e, e', off, v, h, he, ho => by
    have h : L[k]? = some e := by simpa using h
    rw [List.set_cons_succ, cellsG, cellsG, ← el_set L k e e' off v h he ho, List.set_append_right _ _ (by rw [elC_ok.len]; omega), elC_ok.len, show (k + 1) * 29 + off - 29 = k * 29 + off by omega]
theorem el_qp (y : MV) (r v b : SlV) (n : Int) : (elC (y, r, v, b)).set 26 (.int .i64 n) = elC ({ y with qp := n }, r, v, b) := rfl
theorem mem_ownI (v : Value) (g : Nat) : g ∈ ownI v ↔ g ∈ ownG v := by
  unfold ownI ownG
  cases v.ownBlock <;> simp
/-- A slice of numbers that may be changed, in a block that is new since B and is not g. -/
def IntsAt (B g : Nat) (w : World) (s : SlV) : Prop := s.2.1 ≤ 40 ∧ ∀ k, k < s.2.1 → ∃ b o v, s.1 = some ⟨b, o, none⟩ ∧ w.cell? ⟨b, o + k, none⟩ = some (.int .i64 v) ∧ w.frozen? ⟨b, o + k, none⟩ = false ∧ B ≤ b ∧ b ≠ g
theorem IntsAt.step {B g : Nat} {w w' : World} {s : SlV} {S : List Nat} (h : IntsAt B g w s) (o : Only S w w') (hS : ∀ y, y ∈ S → y = g) : IntsAt B g w' s := ⟨h.1, fun k hk => by
  obtain ⟨b, o', v, h1, h2, h3, h4, h5⟩ := h.2 k hk
  have hb : b ∉ S := fun q => h5 (hS b q)
  exact ⟨b, o', v, h1, o.cell h2 hb, by rw [o.frozen (World.block_lt_of_cell? _ _ h2) hb]; exact h3, h4, h5⟩⟩
theorem IntsAt.poke {B g q m : Nat} {w : World} {s : SlV} {z : Int} (h : IntsAt B g w s) (hz : w.cell? ⟨q, m, none⟩ = some (.int .i64 z)) (x : Int) : IntsAt B g (w.setCell ⟨q, m, none⟩ (.int .i64 x)) s := ⟨h.1, fun k hk => by
  obtain ⟨b, o', v, h1, h2, h3, h4, h5⟩ := h.2 k hk
  by_cases e : (⟨b, o' + k, none⟩ : Addr) = ⟨q, m, none⟩
  · exact ⟨b, o', x, h1, by rw [e]; exact World.cell?_setCell_same _ _ _ hz, by rw [World.frozen?_setCell]; exact h3, h4, h5⟩
  · exact ⟨b, o', v, h1, by rw [World.cell?_setCell_other _ _ _ _ (by simpa [eq_comm] using e)]; exact h2, by rw [World.frozen?_setCell]; exact h3, h4, h5⟩⟩
theorem Own.ints {B g : Nat} {w : World} {e : El} (h : Own (fun b => B ≤ b ∧ b ≠ g) w e) (hm : MSm e.1) : IntsAt B g w e.2.1 := by
  have r := h.r.toG
  obtain ⟨a, c, hs, _, _, h3⟩ := r.holds inC_ok
  have hs' : (SlV.sl e.2.1) = .slice e.2.1.1 e.2.1.2.1 e.2.1.2.2 := rfl
  rw [hs'] at hs
  obtain ⟨ea, el, ec⟩ := Value.slice.inj hs
  refine ⟨by rw [el]; exact hm.r, fun k hk => ?_⟩
  rcases h3 with h3 | ⟨b, o, e2, hc⟩
  · rw [h3] at el
    simp at el
    omega
  · rw [el] at hk
    have hx := hc k _ (List.getElem?_eq_getElem hk) 0 _ rfl
    rw [Nat.mul_one, Nat.add_zero] at hx
    have own : b ∈ ownI e.2.1.sl := by
      rw [mem_ownI, hs', ea, e2]
      simp [ownG, Value.ownBlock]
    refine ⟨b, o, _, by rw [ea, e2], hx, ?_, h.rn b own⟩
    exact r.frozen b ((mem_ownI _ _).1 own) _
/-- The row, of which numbers are changed. -/
def GotR (B g n : Nat) (w : World) : Prop := ∃ L : List El, L.length = n ∧ Blk w g 40 (cellsG elC L).toArray ∧ ∀ e, e ∈ L → IntsAt B g w e.2.1
theorem GotR.qp {B g n i : Nat} {w : World} {L : List El} {x : MV} {r v b : SlV} (hl : L.length = n) (hB : Blk w g 40 (cellsG elC L).toArray) (hi : ∀ e, e ∈ L → IntsAt B g w e.2.1) (hx : L[i]? = some (x, r, v, b)) (z : Int) :
    (L.set i ({ x with qp := z }, r, v, b)).length = n ∧ Blk (w.setCell ⟨g, i * 29 + 26, none⟩ (.int .i64 z)) g 40 (cellsG elC (L.set i ({ x with qp := z }, r, v, b))).toArray ∧ ∀ e, e ∈ L.set i ({ x with qp := z }, r, v, b) → IntsAt B g (w.setCell ⟨g, i * 29 + 26, none⟩ (.int .i64 z)) e.2.1 := by
  have k : Only [g] w (w.setCell ⟨g, i * 29 + 26, none⟩ (.int .i64 z)) := (Only.refl _ _).setCell (.inl (by simp)) _
  refine ⟨by rw [List.length_set, hl], ?_, fun e he => ?_⟩
  · have := hB.set (i * 29 + 26) (.int .i64 z)
    rwa [List.setIfInBounds_toArray, el_set L i _ _ 26 _ hx (el_qp x r v b z) (by omega)] at this
  · rcases List.mem_or_eq_of_mem_set he with h | h
    · exact (hi e h).step k (fun y hy => by simpa using hy)
    · rw [h]
      exact (hi _ (List.mem_of_getElem? hx)).step k (fun y hy => by simpa using hy)
/-- What Mbs returned is equal to a list of the same. -/
theorem eqmbs_cpd {w4 w5 : World} {ms : List MV} {g : Nat} {L : List El} (q3 : Blk w5 g 40 (cellsG elC L).toArray) (q4 : L.map (·.1) = ms) (q5 : ∀ e, e ∈ L → Own (fun b => w4.heap.size ≤ b ∧ b ≠ g) w5 e) (hs : ∀ x, x ∈ ms → MSm x) (b : Value) (us : List El) (hb : HoldsG elC 29 w5 b us) (eb : ∀ e, e ∈ us → EAt w5 e) (he : us.map (·.1) = ms) (hl : ms.length ≤ 100) :
    Calls Try.prog 27 #[.slice (some ⟨g, 0, none⟩) ms.length ms.length, b] w5 fun e w' => e = .returned (.bool true) ∧ Only [] w5 w' := by
  have ll : L.length = ms.length := by rw [← q4, List.length_map]
  have HL : HoldsG elC 29 w5 (.slice (some ⟨g, 0, none⟩) ms.length ms.length) L := by
    have := (rowG_blk elC_ok q3 (by rw [ll]; unfold maxLen; omega)).holds elC_ok
    rwa [ll] at this
  exact eqmbs_same _ b L us w5 HL hb (fun e h => ⟨(q5 e h).at, hs e.1 (by rw [← q4]; exact List.mem_map_of_mem h)⟩) eb (q4.trans he.symm) (by omega)
end Go.Proofs.Ytfmfknjjhemnoaa

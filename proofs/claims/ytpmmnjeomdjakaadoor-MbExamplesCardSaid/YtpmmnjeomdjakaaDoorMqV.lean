/- The two variables that the rows list: kinds.divisions (how many parts each has), mb.sizes. -/
import Derived.Test.YtpmmnjeomdjakaaDoorRows
import Derived.Test.YtpmmnjeomdjakaaDoorMmb7
import Derived.Lib.LaidU8
import Derived.ChangeSame
import Derived.Deep.Slices
import Derived.OpenShut
namespace Go.Proofs.YtpmmnjeomdjakaaDoor
open Go.RowKit Go.Deep
set_option linter.unusedVariables false
set_option linter.unusedSimpArgs false

def szL : List Int := [16, 15, 16, 4, 15]
def divN : Nat → Nat
  | 0 => 1
  | 1 => 2
  | 2 => 2
  | _ => 4
/-- The two variables hold what the program's text lays; of the first, how many parts there are. -/
structure MbV (w : World) : Prop where
  d : ∀ j, j < 4 → ∃ a c, w.cell? ⟨1, j, none⟩ = some (.slice (some a) (divN j) c)
  s : ∀ j, j < 5 → w.cell? ⟨0, j, none⟩ = some (.int .i64 (szL.getD j 0))
theorem MbV.only {S : List Nat} {w w' : World} (h : MbV w) (k : Only S w w') (h1 : 1 ∉ S) (h2 : 0 ∉ S) : MbV w' :=
  ⟨fun j hj => by obtain ⟨a, c, e⟩ := h.d j hj; exact ⟨a, c, k.cell e h1⟩, fun j hj => k.cell (h.s j hj) h2⟩
theorem MbV.only0 {w w' : World} (h : MbV w) (k : Only [] w w') : MbV w' := h.only k (by simp) (by simp)
theorem MbV.lt {w : World} (h : MbV w) : 1 < w.heap.size ∧ 0 < w.heap.size :=
  ⟨by obtain ⟨a, c, e⟩ := h.d 0 (by omega); exact World.block_lt_of_cell? _ _ e, World.block_lt_of_cell? _ _ (h.s 0 (by omega))⟩
/-- What lies in blocks that are new to a world with the variables. -/
theorem MbV.new {S : List Nat} {w w' w0 : World} (h : MbV w) (h0 : MbV w0) (k : Only S w w') (hS : ∀ b, b ∈ S → w0.heap.size ≤ b) : MbV w' :=
  h.only k (fun hm => by have := hS _ hm; have := h0.lt; omega) (fun hm => by have := hS _ hm; have := h0.lt; omega)
theorem MbV.drewN {w : World} (h : MbV w) (n : Nat) : MbV (w.drewN n) := h.only0 ((Only.refl [] w).drewN n)
theorem und_divs : Tryd.prog.underlying 85 = some (.array 4 26) := by kernel_rfl
theorem und_iss : Tryd.prog.underlying 26 = some (.slice 24) := by kernel_rfl
theorem cells_iss : Tryd.prog.cellsOf 26 = 1 := by kernel_rfl
theorem cells_divs : Tryd.prog.cellsOf 85 = 4 := by kernel_rfl
/-- The lengths of the slices of an array, by what it reads as. -/
theorem lens_of {H : Type} {enc : TypeId × Value → H} {W : World} {fuel : Nat} {cs : List Value} {ds : List (DataW H)} {p : List MemPlace} (h : DataW.trod enc Tryd.prog W 0 (fun _ => true) false fuel 85 cs = some (.agg ds, p)) :
    cs.length = 4 ∧ ∀ (j : Nat) (l r : List (DataW H)), j < 4 → ds[j]? = some (.slice l r) → ∃ a c, cs[j]? = some (.slice (some a) l.length c) := by
  obtain ⟨xs, m, _, hx, hl, hxl, hall⟩ := DataW.trod_array und_divs h
  rw [cells_divs] at hl
  refine ⟨hl, fun j l r hj hd => ?_⟩
  have hr := hall j hj
  rw [cells_iss, Nat.mul_one, List.drop_eq_getElem_cons (by omega), List.take_succ_cons, List.take_zero, List.getElem?_eq_getElem (by omega : j < xs.length)] at hr
  have hds : ds = xs.map (·.1) := by
    have := congrArg Prod.fst hx
    simpa using this
  have h1 : xs[j].1 = .slice l r := by
    rw [hds, List.getElem?_map, List.getElem?_eq_getElem (by omega : j < xs.length)] at hd
    simpa using hd
  rcases open_slice und_iss hr with ⟨_, e⟩ | ⟨a, len, cap, m', n, D, Pl, hcs, _, _, _, _, e, _⟩
  · rw [e] at h1; cases h1
  · rw [e] at h1
    simp only [DataW.slice.injEq] at h1
    refine ⟨a, cap, ?_⟩
    have hL : l.length = len := by rw [← h1.1]; simp
    rw [List.getElem?_eq_getElem (by omega), (List.cons.inj hcs).1, hL]
theorem mbv_of {W : World} (h : laidMet Tryd.prog [("spindle/kinds.divisions", .agg [.slice [.slice [.lit (.int .i64 0), .lit (.int .i64 1), .lit (.int .i64 2), .lit (.int .i64 3)] []] [], .slice [.slice [.lit (.int .i64 0), .lit (.int .i64 1)] [], .slice [.lit (.int .i64 2), .lit (.int .i64 3)] []] [], .slice [.slice [.lit (.int .i64 0), .lit (.int .i64 2)] [], .slice [.lit (.int .i64 1), .lit (.int .i64 3)] []] [], .slice [.slice [.lit (.int .i64 0)] [], .slice [.lit (.int .i64 1)] [], .slice [.lit (.int .i64 2)] [], .slice [.lit (.int .i64 3)] []] []]), ("spindle/mb.sizes", .agg [.lit (.int .i64 16), .lit (.int .i64 15), .lit (.int .i64 16), .lit (.int .i64 4), .lit (.int .i64 15)])] W) : MbV W := by
  constructor
  · obtain ⟨g', t', cs, fuel, p, hg', ht', hvar, hd⟩ := Lib.laidMet.reads h (.head _)
    have hg : Tryd.prog.globalNamed "spindle/kinds.divisions" = some 1 := by kernel_rfl
    have ht : (Tryd.prog.globals[1]?).map (·.type) = some 85 := by kernel_rfl
    obtain rfl := Option.some.inj (hg.symm.trans hg')
    obtain rfl := Option.some.inj (ht.symm.trans ht')
    obtain ⟨hl, hall⟩ := lens_of hd
    intro j hj
    have key : ∀ (l r : List (DataW Unit)), l.length = divN j → ([.slice [.slice [.lit (.int .i64 0), .lit (.int .i64 1), .lit (.int .i64 2), .lit (.int .i64 3)] []] [], .slice [.slice [.lit (.int .i64 0), .lit (.int .i64 1)] [], .slice [.lit (.int .i64 2), .lit (.int .i64 3)] []] [], .slice [.slice [.lit (.int .i64 0), .lit (.int .i64 2)] [], .slice [.lit (.int .i64 1), .lit (.int .i64 3)] []] [], .slice [.slice [.lit (.int .i64 0)] [], .slice [.lit (.int .i64 1)] [], .slice [.lit (.int .i64 2)] [], .slice [.lit (.int .i64 3)] []] []] : List (DataW Unit))[j]? = some (.slice l r) → ∃ a c, W.cell? ⟨1, j, none⟩ = some (.slice (some a) (divN j) c) := by
      intro l r hL hd
      obtain ⟨a, c, e⟩ := hall j l r hj hd
      refine ⟨a, c, ?_⟩
      rw [World.var?_cell hg hvar j, ← hL, ← e]
      simp
    match j, hj with
    | 0, _ => exact key _ _ rfl rfl
    | 1, _ => exact key _ _ rfl rfl
    | 2, _ => exact key _ _ rfl rfl
    | 3, _ => exact key _ _ rfl rfl
  · obtain ⟨g', t', cs, fuel, p, hg', ht', hvar, hd⟩ := Lib.laidMet.reads h (.tail _ (.head _))
    have hg : Tryd.prog.globalNamed "spindle/mb.sizes" = some 0 := by kernel_rfl
    have ht : (Tryd.prog.globals[0]?).map (·.type) = some 81 := by kernel_rfl
    obtain rfl := Option.some.inj (hg.symm.trans hg')
    obtain rfl := Option.some.inj (ht.symm.trans ht')
    have e := Lib.cells_of_tab (k := .i64) (n := 5) (e := 3) (zs := szL) (by kernel_rfl) (by kernel_rfl) (by kernel_rfl) (by kernel_rfl) hd
    intro j hj
    rw [World.var?_cell hg hvar j, ← Array.getElem?_toList, e]
    match j, hj with
    | 0, _ => rfl
    | 1, _ => rfl
    | 2, _ => rfl
    | 3, _ => rfl
    | 4, _ => rfl
end Go.Proofs.YtpmmnjeomdjakaaDoor

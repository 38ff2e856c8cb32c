/- slices.Grow at bytes: the library's own text, walked at this translation's numbers. -/
import Derived.Test.YtjjjfmnhdnajkaaGreatDoorRows
import Derived.Test.YtjjjfmnhdnajkaaGreatDoorMg1
import Derived.Lib.Walk
import Derived.Lib.SliceRun
import Derived.Lib.AppendZerosOnto
namespace Go.Proofs.YtjjjfmnhdnajkaaGreatDoor
open Go.RowKit
set_option linter.unusedVariables false

theorem info_u8 : (Tryz.prog.info? 5).map (fun i => (i.zero, i.size, i.bytes)) = some (some (.int .u8 0), 1, 1) := by kernel_rfl
theorem und_bytes : Tryz.prog.underlying 43 = some (.slice 5) := by kernel_rfl
theorem und_int : Tryz.prog.underlying 3 = some (.int .i64) := by kernel_rfl

set_option maxHeartbeats 400000 in
theorem grow_room (base : Option Addr) (l c n : Nat) (w : World) (hlc : l ≤ c) (hc63 : c ≤ 9223372036854775807) (hn63 : n ≤ 4611686018427387904) (hroom : l + n ≤ c) :
    Calls Tryz.prog 100 #[.slice base l c, .int .i64 n] w fun e w' => e = .returned (.slice base l c) ∧ w = w' := by
  have h1 : ¬ ((n : Int) < 0) := by omega
  have h4 : ¬ ((n : Int) - ((c : Int) - (l : Int)) > 0) := by omega
  go_enter Tryz.func100, Tryz.ntmps100
  go_wp2
  go_ret
  exact ⟨rfl, rfl⟩

/-- The cells of a slice up to its capacity, as append reads them. -/
theorem read_old (w : World) (base : Option Addr) (c : Nat) (cs : List Value) (hlen : cs.length = c) (hnone : base = none → c = 0) (hread : ∀ p, base = some p → ∀ j v, cs[j]? = some v → w.cell? (p.add j) = some v) (size : Nat) (hsize : size = 1) :
    (Builtin.firstCells size c (.slice base c c)).run Tryz.prog w.drew = .ok cs.toArray w.drew := by
  subst hsize
  match base, hnone, hread with
  | some p, _, hread => exact run_firstCells_some w.drew 1 c p c c cs (by omega) (fun j v hj => hread p rfl j v hj)
  | none, hnone, _ =>
    have hc := hnone rfl
    obtain rfl : cs = [] := List.length_eq_zero_iff.1 (by omega)
    obtain rfl : c = 0 := hc
    exact run_firstCells_none w.drew 1 0 0 0

/-- k zero bytes appended to a full slice: a new row of some capacity G. -/
theorem append_zeros (w : World) (base : Option Addr) (c k : Nat) (cs : List Value) (hk : 0 < k) (hbig : c + k ≤ 140737488355328) (hlen : cs.length = c) (hnone : base = none → c = 0) (hread : ∀ p, base = some p → ∀ j v, cs[j]? = some v → w.cell? (p.add j) = some v) :
    ∃ G, c + k ≤ G ∧ G ≤ maxLen ∧ ∀ ty, (Builtin.append_ #[43, 3] ty #[.slice base c c, .int .i64 (k : Int)]).run Tryz.prog w =
      .ok (.slice (some ⟨w.heap.size, 0, none⟩) (c + k) G) (w.drew.alloc (.cells (cs.toArray ++ Builtin.zeroCells (Value.int .u8 0).cells k ++ Builtin.zeroCells (Value.int .u8 0).cells (G - (c + k))) 5)) := by
  obtain ⟨row, hrow, hzero, hsize, hbytes⟩ := info_parts info_u8
  refine ⟨_, grownCap_ge w _ _ _, grownCap_le_maxLen w (c + k) c 5 (by unfold maxLen; omega), fun ty => ?_⟩
  exact Lib.run_append_grow_zeros w _ _ ty _ row _ .i64 .i64 und_bytes und_int hrow hzero base c c cs (read_old w base c cs hlen hnone hread _ hsize) k hk (by omega) (by omega) (by omega) (by rw [hbytes]; omega)
    (by rw [hbytes]; have := growslice_fits (need := c + k) (old := c) (bytes := 1) (by omega) (by omega); omega)

set_option maxHeartbeats 1000000 in
/-- No room: a new row. cs: all the cells up to the capacity. -/
theorem grow_grow (base : Option Addr) (l c n : Nat) (cs : List Value) (w : World) (hlc : l ≤ c) (hroom : c < l + n) (hbig : l + n ≤ 140737488355328)
    (hcl : cs.length = c) (hnil : base = none → c = 0) (hcs : ∀ a, base = some a → ∀ j v, cs[j]? = some v → w.cell? (a.add j) = some v) :
    Calls Tryz.prog 100 #[.slice base l c, .int .i64 n] w fun e w' => ∃ G, l + n ≤ G ∧ G ≤ maxLen ∧ 
      e = .returned (.slice (some ⟨w.heap.size, 0, none⟩) l G) ∧
      w' = w.drew.alloc (.cells (cs.toArray ++ Builtin.zeroCells (Value.int .u8 0).cells (l + n - c) ++ Builtin.zeroCells (Value.int .u8 0).cells (G - (l + n))) 5) := by
  obtain ⟨G, g1, g2, happ⟩ := append_zeros w base c (l + n - c) cs (by omega) (by omega) hcl hnil hcs
  rw [show c + (l + n - c) = l + n from by omega] at g1 happ
  rw [show ((l + n - c : Nat) : Int) = (n : Int) - ((c : Int) - (l : Int)) from by omega] at happ
  have b1 : ¬ ((n : Int) < 0) := by omega
  have b2 : (n : Int) - ((c : Int) - (l : Int)) > 0 := by omega
  have b3 : G ≤ 9223372036854775807 := by unfold maxLen at g2; omega
  have b4 : l ≤ G := by omega
  have M := hid g2
  clear g2 hcl hcs
  go_enter Tryz.func100, Tryz.ntmps100
  cases base with
  | some p =>
    obtain ⟨pb, po, ps⟩ := p
    go_wp2_with (at_builtin; refine Lib.wpList_append_run _ rfl _ _ _ _ rfl _ _ rfl rfl _ _ (happ _) ?_)
    all_goals (go_ret; exact ⟨G, by omega, M.out, rfl, rfl⟩)
  | none =>
    obtain rfl : c = 0 := hnil rfl
    obtain rfl : l = 0 := by omega
    go_wp2_with (at_builtin; refine Lib.wpList_append_run _ rfl _ _ _ _ rfl _ _ rfl rfl _ _ (happ _) ?_)
    all_goals (go_ret; exact ⟨G, by omega, M.out, rfl, rfl⟩)
end Go.Proofs.YtjjjfmnhdnajkaaGreatDoor

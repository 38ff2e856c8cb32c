/- Slices of bytes that a call collects: one byte more, and the string of them. -/
import Derived.Test.YtfigmjlnjaihnaaRows
import Derived.Test.YtfigmjlnjaihnaaObj
import Derived.Lib.Walk
import Derived.Lib.SliceRun
import Derived.Lib.AppendZerosOnto
import Derived.Laws.CopyOwn
import Derived.Laws.BytesString
import Derived.Laws.IdiomStrings
import Derived.Lib.BufferRead
import Derived.ShutString
import Derived.Deep.OwnRows
import Derived.RegionTactic
import Derived.ChangeAlike
import Derived.Deep.QuietTactic
import Derived.BigQuiet
namespace Go.Proofs.Ytfigmjlnjaihnaa
open Go.RowKit
set_option linter.unusedVariables false

theorem info_u8 : (Try.prog.info? 5).map (fun i => (i.zero, i.size, i.bytes)) = some (some (.int .u8 0), 1, 1) := by kernel_rfl
theorem und_bytes : Try.prog.underlying 36 = some (.slice 5) := by kernel_rfl
theorem und_u8 : Try.prog.underlying 5 = some (.int .u8) := by kernel_rfl
theorem und_str : Try.prog.underlying 9 = some .string := by kernel_rfl
def byteV (x : UInt8) : Value := .int .u8 x.toNat
def ownOf (v : Value) : List Nat := match v.ownBlock with
  | some g => [g]
  | none => []

/-- sv is a slice of the bytes bs, which nobody else holds. -/
def Row (w : World) (sv : Value) (bs : List UInt8) : Prop := w.ownsRow 0 5 1 sv bs.length (bs.map byteV)

theorem Row.lt {w : World} {sv : Value} {bs : List UInt8} (h : Row w sv bs) : ∀ g, g ∈ ownOf sv → g < w.heap.size := by
  intro g hg
  rcases h.2 with ⟨rfl, _⟩ | ⟨g', cap, cur, rfl, _, hh, _⟩
  · simp [ownOf, Value.ownBlock] at hg
  · simp [ownOf, Value.ownBlock] at hg
    subst hg
    exact (Array.getElem?_eq_some_iff.1 hh).1
theorem Row.only {S : List Nat} {w w' : World} {sv : Value} {bs : List UInt8} (h : Row w sv bs) (k : Only S w w') (hd : ∀ g, g ∈ ownOf sv → g ∉ S) : Row w' sv bs := by
  refine ⟨h.1, ?_⟩
  rcases h.2 with ⟨rfl, h0⟩ | ⟨g', cap, cur, rfl, hb, hh, r⟩
  · exact .inl ⟨rfl, h0⟩
  · exact .inr ⟨g', cap, cur, rfl, hb, by rw [k.block g' (Array.getElem?_eq_some_iff.1 hh).1 (hd g' (by simp [ownOf, Value.ownBlock]))]; exact hh, r⟩
theorem addr_add (B j : Nat) : (⟨B, 0, none⟩ : Addr).add j = ⟨B, j, none⟩ := by cases j <;> simp [Addr.add]

theorem Row.form {w : World} {sv : Value} {bs : List UInt8} (h : Row w sv bs) : ∃ a c, sv = .slice a bs.length c ∧ bs.length ≤ c := by
  rcases h.2 with ⟨rfl, h0⟩ | ⟨g, cap, cur, rfl, _, _, h1, _⟩
  · exact ⟨none, 0, by rw [h0], by omega⟩
  · exact ⟨_, _, rfl, h1⟩

theorem conv_row {w : World} {sv : Value} {bs : List UInt8} (h : Row w sv bs) : (convert 36 9 sv).run Try.prog w = .ok (.string ⟨bs.toArray⟩) w := by
  rcases h.2 with ⟨rfl, h0⟩ | ⟨g, cap, cur, rfl, _, hh, h1, _, h2, h3⟩
  · have hn' : bs = [] := List.length_eq_zero_iff.1 h0
    subst hn'
    exact Lib.run_convert_nil_bytes w _ _ 5 0 und_bytes und_u8 und_str
  · refine run_convert_bytes_back w _ _ 5 _ cap bs und_bytes und_u8 und_str fun j hj => ?_
    rw [addr_add]
    simp only [World.cell?, hh]
    have h4 : (cur.toList.take (bs.length * 1))[j]? = (bs.map byteV)[j]? := by rw [h3]
    rw [List.getElem?_take, if_pos (by omega)] at h4
    simpa [hj, byteV] using h4
theorem grown_only {w w' : World} {sv : Value} (h : w.grownBy w' sv.ownBlock) : Only (ownOf sv) w w' :=
  ⟨h.os, h.tape, h.output, h.size, fun k hk hs => h.block k hk (fun e => hs (by unfold ownOf; rw [← e]; simp))⟩

theorem run_append_bytes (w : World) (ty : TypeId) (sv : Value) (bs : List UInt8) (hr : Row w sv bs) (ad : Addr) (c : Nat) (cs : List UInt8) (h0 : 0 < cs.length)
    (hcs : ∀ j v, (cs.map byteV)[j]? = some v → w.cell? (ad.add j) = some v) (hbig : bs.length + cs.length ≤ 140737488355328) :
    ∃ sv' w', (Builtin.append_ #[36, 36] ty #[sv, .slice (some ad) cs.length c]).run Try.prog w = .ok sv' w' ∧ Row w' sv' (bs ++ cs) ∧ Only (ownOf sv) w w' ∧ ∀ g, g ∈ ownOf sv' → g ∈ ownOf sv ∨ w.heap.size ≤ g := by
  obtain ⟨i0, hi0, hz0, hs0, hb0⟩ := info_parts info_u8
  have hl : (cs.map byteV).length = cs.length * i0.size := by rw [hs0]; simp
  have one : ∀ u, u ∈ cs.map byteV → u.oneCell' = true := fun u hu => by obtain ⟨x, _, rfl⟩ := List.mem_map.1 hu; rfl
  obtain ⟨v', w', h1, h2, h3, _⟩ := run_append_own (P := Try.prog) w 0 36 ty 5 i0 (.int .u8 0) 1 1 und_bytes hi0 hz0 hs0 hb0 rfl (by omega) sv bs.length (bs.map byteV) hr ad cs.length c (cs.map byteV) (by simp) hcs one (by unfold maxLen; omega) (by omega) (Nat.zero_le _)
  refine ⟨v', w', h1, by unfold Row; rw [List.length_append, List.map_append]; exact h2, grown_only h3, fun g hg => ?_⟩
  rcases hr.2 with ⟨rfl, hn⟩ | ⟨g', cap, cur, rfl, hbg, hh, hnc, hcm, hsz, htake⟩
  · have h4 := run_append_nil (P := Try.prog) w 36 ty 5 i0 (.int .u8 0) und_bytes hi0 hz0 ad cs.length c (cs.map byteV) hl hcs h0 (by omega) (by rw [hb0]; omega)
    have h5 := h1.symm.trans h4
    injection h5 with h5 _
    rw [h5] at hg
    simp [ownOf, Value.ownBlock] at hg
    exact .inr (by omega)
  · by_cases hroom : bs.length + cs.length ≤ cap
    · have h4 := run_append_room (P := Try.prog) w 36 ty 5 i0 und_bytes hi0 g' bs.length cap cur hh ad cs.length c (cs.map byteV) hl hcs one hroom (by rw [hs0, hsz]; simp; omega)
      have h5 := h1.symm.trans h4
      injection h5 with h5 _
      rw [h5] at hg
      exact .inl (by simpa [ownOf, Value.ownBlock] using hg)
    · have holds : ∀ j u, (bs.map byteV)[j]? = some u → w.cell? ((⟨g', 0, none⟩ : Addr).add j) = some u := World.ownsRow.cells (g := g') hr rfl
      have h4 := run_append_grow (P := Try.prog) w 36 ty 5 i0 (.int .u8 0) und_bytes hi0 hz0 ⟨g', 0, none⟩ bs.length cap (bs.map byteV) (by rw [hs0]; simp) holds ad cs.length c (cs.map byteV) hl hcs (by omega) (by omega) (by rw [hb0]; have := growslice_fits (need := bs.length + cs.length) (old := cap) (bytes := 1) (by omega) (by omega); simpa using this)
      have h5 := h1.symm.trans h4
      injection h5 with h5 _
      rw [h5] at hg
      simp [ownOf, Value.ownBlock] at hg
      exact .inr (by omega)


theorem append_one (wr : World) (out : Value) (bs : List UInt8) (x : UInt8) (v : Int) (hv : v = (x.toNat : Int)) (R : Row wr out bs) (hl : bs.length + 1 ≤ 140737488355328) :
    ∃ sv2 w2, (Builtin.append_ #[36, 36] 36 #[out, .slice (some ⟨wr.heap.size, 0, none⟩) 1 1]).run Try.prog (wr.alloc (.cells #[.int .u8 v] 5)) = .ok sv2 w2 ∧ Row w2 sv2 (bs ++ [x]) ∧ Only (ownOf out) wr w2 ∧
      ∀ g, g ∈ ownOf sv2 → g ∈ ownOf out ∨ wr.heap.size ≤ g := by
  subst hv
  have ra : Only [] wr (wr.alloc (.cells #[.int .u8 x.toNat] 5)) := (Only.refl [] wr).alloc _
  obtain ⟨sv2, w2, hrun, hrow, honly, hown⟩ := run_append_bytes (wr.alloc (.cells #[.int .u8 x.toNat] 5)) 36 _ _ (R.only ra (by simp)) ⟨wr.heap.size, 0, none⟩ 1 [x] (by simp) (fun j u hj => by
    have hj0 : j = 0 := by have := (List.getElem?_eq_some_iff.1 hj).1; simp at this; omega
    subst hj0
    simp only [List.map_cons, List.map_nil, List.getElem?_cons_zero, Option.some.injEq] at hj
    rw [← hj, addr_add, World.cell?_alloc_new]
    rfl) (by simpa using hl)
  refine ⟨sv2, w2, hrun, hrow, (ra.mono (fun _ _ h => by cases h)).trans honly, fun g hg => ?_⟩
  rcases hown g hg with e | e
  · exact .inl e
  · exact .inr (by simp at e; omega)
end Go.Proofs.Ytfigmjlnjaihnaa

/- Macroblocks: as structures, as cells. -/
import Derived.Test.YtfmfknjjhemnoaaRows
import Derived.Test.YtfmfknjjhemnoaaMem
namespace Go.Proofs.Ytfmfknjjhemnoaa
open Go.RowKit
set_option linter.unusedVariables false
set_option linter.unusedSimpArgs false

@[ext] structure P16 where
  (p0 p1 p2 p3 p4 p5 p6 p7 p8 p9 pa pb pc pd pe pf : Int)
  deriving DecidableEq
@[ext] structure S4 where
  (s0 s1 s2 s3 : Int)
  deriving DecidableEq
def P16.l (p : P16) : List Int := [p.p0, p.p1, p.p2, p.p3, p.p4, p.p5, p.p6, p.p7, p.p8, p.p9, p.pa, p.pb, p.pc, p.pd, p.pe, p.pf]
def S4.l (p : S4) : List Int := [p.s0, p.s1, p.s2, p.s3]
def P16.zero : P16 := ⟨0, 0, 0, 0, 0, 0, 0, 0, 0, 0, 0, 0, 0, 0, 0, 0⟩
def S4.zero : S4 := ⟨0, 0, 0, 0⟩
/-- A macroblock. -/
@[ext] structure MV where
  (kind mode chroma : Int)
  pr : P16
  sb : S4
  refs : List Int
  mvds : List (Int × Int)
  (cbp qp : Int)
  blocks : List (List Int)
  pcm : ByteArray
  deriving DecidableEq
def prC (p : P16) : List Value := [.int .u8 p.p0, .int .u8 p.p1, .int .u8 p.p2, .int .u8 p.p3, .int .u8 p.p4, .int .u8 p.p5, .int .u8 p.p6, .int .u8 p.p7, .int .u8 p.p8, .int .u8 p.p9, .int .u8 p.pa, .int .u8 p.pb, .int .u8 p.pc, .int .u8 p.pd, .int .u8 p.pe, .int .u8 p.pf]
def sbC (p : S4) : List Value := [.int .u8 p.s0, .int .u8 p.s1, .int .u8 p.s2, .int .u8 p.s3]
/-- Its 29 cells: the lists lie at rv, vv, bv. -/
def mC (x : MV) (rv vv bv : Value) : List Value := [.int .u8 x.kind, .int .u8 x.mode, .int .u8 x.chroma,
  .int .u8 x.pr.p0, .int .u8 x.pr.p1, .int .u8 x.pr.p2, .int .u8 x.pr.p3, .int .u8 x.pr.p4, .int .u8 x.pr.p5, .int .u8 x.pr.p6, .int .u8 x.pr.p7, .int .u8 x.pr.p8, .int .u8 x.pr.p9, .int .u8 x.pr.pa, .int .u8 x.pr.pb, .int .u8 x.pr.pc, .int .u8 x.pr.pd, .int .u8 x.pr.pe, .int .u8 x.pr.pf,
  .int .u8 x.sb.s0, .int .u8 x.sb.s1, .int .u8 x.sb.s2, .int .u8 x.sb.s3, rv, vv, .int .u8 x.cbp, .int .i64 x.qp, bv, .string x.pcm]
def mV (x : MV) (rv vv bv : Value) : Value := .agg (mC x rv vv bv).toArray
/-- A macroblock of this kind, mode and cbp, without anything else. -/
def smallM (t : Int × Int × Int) : MV := ⟨t.1, t.2.1, 0, .zero, .zero, [], [], t.2.2, 0, [], .empty⟩
def smallV (t : Int × Int × Int) : Value := mV (smallM t) (.slice none 0 0) (.slice none 0 0) (.slice none 0 0)
theorem info_mb : (Try.prog.info? 40).map (·.size) = some 29 := by kernel_rfl
theorem info_mb' (x : MV) (rv vv bv : Value) : (Try.prog.info? 40).map (·.size) = some (mC x rv vv bv).length := info_mb
theorem ho_mb {w : World} {k off : Nat} {x : MV} {rv vv bv : Value} (hc : ∀ j v, (mC x rv vv bv)[j]? = some v → w.cell? ⟨k, off + j, none⟩ = some v) : (Instr.loadAt 40 (.pointer (some ⟨k, off, none⟩))).run Try.prog w = .ok (.agg (mC x rv vv bv).toArray) w := by
  have hl := run_loadCells_list (P := Try.prog) w ⟨k, off, none⟩ (mC x rv vv bv) (fun j v hj => by rw [add_off]; exact hc j v hj)
  rw [show (mC x rv vv bv).length = 29 from rfl] at hl
  simp only [Instr.loadAt, Instr.sureAddr, Sem.run_bind, Sem.run_pure, Result.andThen_ok, loadVar]
  simp [hl]
theorem Blk.mb {w : World} {k : Nat} {T : TypeId} {x : MV} {rv vv bv : Value} (h : Blk w k T (mC x rv vv bv).toArray) : (Instr.loadAt 40 (.pointer (some ⟨k, 0, none⟩))).run Try.prog w = .ok (.agg (mC x rv vv bv).toArray) w :=
  ho_mb (fun j v hj => by rw [Nat.zero_add]; exact h.cell (by simpa using hj))
theorem one_mC (x : MV) {rv vv bv : Value} (h1 : rv.oneCell' = true) (h2 : vv.oneCell' = true) (h3 : bv.oneCell' = true) : ∀ v ∈ mC x rv vv bv, v.oneCell' = true := by
  intro u h
  simp only [mC, List.mem_cons, List.not_mem_nil, or_false] at h
  rcases h with h | h | h | h | h | h | h | h | h | h | h | h | h | h | h | h | h | h | h | h | h | h | h | h | h | h | h | h | h <;> (subst h; first | rfl | exact h1 | exact h2 | exact h3)
theorem lv_mb {w : World} {k : Nat} {T : TypeId} {x : MV} {rv vv bv : Value} (h : Blk w k T (mC x rv vv bv).toArray) : (loadVar 40 ⟨k, 0, none⟩).run Try.prog w = .ok (mV x rv vv bv) w := by
  have hl := run_loadCells_list (P := Try.prog) w ⟨k, 0, none⟩ (mC x rv vv bv) (fun j v hj => by rw [add_off, Nat.zero_add]; exact h.cell (by simpa using hj))
  rw [show (mC x rv vv bv).length = 29 from rfl] at hl
  simp only [loadVar]
  simp [hl, mV]
end Go.Proofs.Ytfmfknjjhemnoaa

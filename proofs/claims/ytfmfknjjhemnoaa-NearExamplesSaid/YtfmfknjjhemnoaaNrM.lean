/- The object Near in memory, of the program and of the reference: three cells, a row of macroblocks. -/
import Derived.Test.YtfmfknjjhemnoaaNrF
namespace Go.Proofs.Ytfmfknjjhemnoaa
open Go.RowKit
set_option linter.unusedVariables false
set_option linter.unusedSimpArgs false

abbrev El := MV × SlV × SlV × SlV
def elC (e : El) : List Value := mC e.1 e.2.1.sl e.2.2.1.sl e.2.2.2.sl
theorem elC_ok : CellsN elC 29 := ⟨fun _ => rfl, fun x u h => one_mC x.1 rfl rfl rfl u h, by omega⟩
theorem el_row : RowType Try.prog 22 40 (mV m0 (.slice none 0 0) (.slice none 0 0) (.slice none 0 0)) 29 128 := ⟨by kernel_rfl, by kernel_rfl, rfl, by omega⟩
theorem MAt.sl {w : World} {x : MV} {rv vv bv : Value} (h : MAt w x rv vv bv) : ∃ a b c : SlV, rv = a.sl ∧ vv = b.sl ∧ bv = c.sl := by
  obtain ⟨a, k, rfl, _⟩ := h.r
  obtain ⟨b, d, rfl, _⟩ := h.v
  obtain ⟨vs, ⟨c, e, rfl, _⟩, _⟩ := h.b
  exact ⟨(a, _, k), (b, _, d), (c, _, e), rfl, rfl, rfl⟩
/-- A macroblock in memory. -/
def EAt (w : World) (e : El) : Prop := MAt w e.1 e.2.1.sl e.2.2.1.sl e.2.2.2.sl
theorem EAt.only0 {w w' : World} {e : El} (h : EAt w e) (k : Only [] w w') : EAt w' e := MAt.only0 h k
/-- It stays as long as nothing of F is touched. -/
def MKeep (F : Nat → Prop) (w : World) (e : El) : Prop := ∀ S w', Only S w w' → (∀ g, g ∈ S → ¬ F g) → EAt w' e
theorem MKeep.now {F : Nat → Prop} {w : World} {e : El} (h : MKeep F w e) : EAt w e := h [] w (Only.refl _ _) (by simp)
theorem Only.comp {S T : List Nat} {a b c : World} (h : Only S a b) (k : Only T b c) : Only (S ++ T) a c :=
  (h.mono (fun _ _ q => List.mem_append_left _ q)).trans (k.mono (fun _ _ q => List.mem_append_right _ q))
theorem MKeep.step {F G : Nat → Prop} {S : List Nat} {w w' : World} {e : El} (h : MKeep F w e) (k : Only S w w') (hS : ∀ g, g ∈ S → ¬ F g) (hG : ∀ g, F g → G g) : MKeep G w' e :=
  fun T w'' o hT => h (S ++ T) w'' (k.comp o) (fun g hg hF => (List.mem_append.1 hg).elim (fun q => hS g q hF) (fun q => hT g q (hG g hF)))
/-- Whose lists are new since w0. -/
theorem OwnM.keep {w0 w w' : World} {S : List Nat} {x : MV} {rv vv bv : Value} (h : OwnM w0 w x rv vv bv) (k : Only S w w') (hS : ∀ g, g ∈ S → g < w0.heap.size ∨ w.heap.size ≤ g) : MAt w' x rv vv bv := by
  have no : ∀ g, w0.heap.size ≤ g → g < w.heap.size → g ∉ S := fun g h1 h2 hh => by have := hS g hh; omega
  obtain ⟨vs, h1, h2, h3⟩ := h.b
  exact ⟨(h.r.only k (fun g hg => no g (h.rn g hg) (h.r.lt g hg))).holds, (h.v.only k (fun g hg => no g (h.vn g hg) (h.v.lt g hg))).holds vcC_ok, vs, (h1.row.only k (fun g hg => no g (h1.new g hg) (h1.row.lt g hg))).holds slC_ok, h2,
    fun j v y hv hy => ((h3 j v y hv hy).1.only k (fun g hg => no g ((h3 j v y hv hy).2 g hg).1 ((h3 j v y hv hy).1.lt g hg))).holds⟩
/-- Its lists are short. -/
structure MSm (x : MV) : Prop where
  r : x.refs.length ≤ 40
  v : x.mvds.length ≤ 40
  b : x.blocks.length ≤ 60
  i : ∀ l, l ∈ x.blocks → l.length ≤ 40
theorem msm_m0 : MSm m0 := ⟨by decide, by decide, by decide, by intro l h; cases h⟩
theorem MSm.len {x : MV} (h : MSm x) : MLen x := ⟨by have := h.r; omega, by have := h.v; omega, by have := h.b; omega, fun l hl => by have := h.i l hl; omega⟩
def nrC (f wd : Int) (sv : Value) : List Value := [.int .i64 f, .int .i64 wd, sv]
/-- The object at block nb, of the first address f and the width wd, with the macroblocks ms; all of it lies in F. -/
structure NAt (T : TypeId) (F : Nat → Prop) (w : World) (nb : Nat) (f wd : Int) (ms : List MV) : Prop where
  lt : ∀ g, F g → g < w.heap.size
  mem : F nb
  f0 : 0 ≤ f
  f1 : f < 8160
  w1 : 1 ≤ wd
  w2 : wd ≤ 128
  n : f + ms.length ≤ 8160
  sm : ∀ x, x ∈ ms → MSm x
  own : ∃ (sv : SlV) (els : List El), Blk w nb T (nrC f wd sv.sl).toArray ∧ RowG elC 29 40 w sv.sl els ∧ els.map (·.1) = ms ∧ (∀ g, g ∈ ownG sv.sl → F g ∧ g ≠ nb) ∧ ∀ e, e ∈ els → MKeep (fun g => F g ∧ g ≠ nb ∧ g ∉ ownG sv.sl) w e
theorem NAt.only {T : TypeId} {F : Nat → Prop} {S : List Nat} {w w' : World} {nb : Nat} {f wd : Int} {ms : List MV} (h : NAt T F w nb f wd ms) (k : Only S w w') (hS : ∀ g, g ∈ S → ¬ F g) : NAt T F w' nb f wd ms := by
  obtain ⟨sv, els, h1, h2, h3, h4, h5⟩ := h.own
  exact ⟨fun g hg => Nat.lt_of_lt_of_le (h.lt g hg) k.size, h.mem, h.f0, h.f1, h.w1, h.w2, h.n, h.sm, sv, els, h1.only k (fun hh => hS _ hh h.mem), h2.only k (fun g hg hh => hS g hh (h4 g hg).1), h3, h4,
    fun e he => (h5 e he).step k (fun g hg hF => hS g hg hF.1) (fun g hg => hg)⟩
theorem NAt.only0 {T : TypeId} {F : Nat → Prop} {w w' : World} {nb : Nat} {f wd : Int} {ms : List MV} (h : NAt T F w nb f wd ms) (k : Only [] w w') : NAt T F w' nb f wd ms := h.only k (by simp)
/-- A new one. -/
theorem nat_new (T : TypeId) (w : World) (f wd : Int) (f0 : 0 ≤ f) (f1 : f < 8160) (w1 : 1 ≤ wd) (w2 : wd ≤ 128) : NAt T (fun g => g = w.heap.size) (w.alloc (.cells (nrC f wd (.slice none 0 0)).toArray T)) w.heap.size f wd [] :=
  ⟨fun g hg => by rw [hg, World.size_alloc]; omega, rfl, f0, f1, w1, w2, by simp; omega, by simp, (none, 0, 0), [], Blk.new _ _ _, RowG.nil _, rfl, by simp [SlV.sl, ownG, Value.ownBlock], by simp⟩
/-- A macroblock more: the copy was made between w and w1, the row is grown between w1 and w2, then the object's cell is written. -/
theorem NAt.add {T : TypeId} {F : Nat → Prop} {w w1 w2 : World} {nb : Nat} {f wd : Int} {els : List El} {sv sv2 : SlV} {e : El}
    (h : NAt T F w nb f wd (els.map (·.1))) (hb : Blk w nb T (nrC f wd sv.sl).toArray) (h4 : ∀ g, g ∈ ownG sv.sl → F g ∧ g ≠ nb) (h5 : ∀ e, e ∈ els → MKeep (fun g => F g ∧ g ≠ nb ∧ g ∉ ownG sv.sl) w e)
    (hf : f + els.length < 8160) (hx : MSm e.1) (he : OwnM w w1 e.1 e.2.1.sl e.2.2.1.sl e.2.2.2.sl)
    (hr : RowG elC 29 40 w2 sv2.sl (els ++ [e])) (o : Only (ownG sv.sl) w1 w2) (hn : ∀ g, g ∈ ownG sv2.sl → g ∈ ownG sv.sl ∨ w1.heap.size ≤ g) :
    ∃ (S : List Nat) (F' : Nat → Prop), Only S w (w2.setCell ⟨nb, 2, none⟩ sv2.sl) ∧ (∀ g, g ∈ S → F g) ∧ NAt T F' (w2.setCell ⟨nb, 2, none⟩ sv2.sl) nb f wd (els.map (·.1) ++ [e.1]) ∧ ∀ g, F' g → F g ∨ w.heap.size ≤ g := by
  have o1 : Only [] w w1 := he.only
  have o2 : Only (ownG sv.sl) w w2 := (o1.mono (fun _ _ h => by cases h)).trans o
  have o3 : Only [nb] w2 (w2.setCell ⟨nb, 2, none⟩ sv2.sl) := (Only.refl _ _).setCell (.inl (by simp)) _
  have o4 : Only (ownG sv.sl ++ [nb]) w (w2.setCell ⟨nb, 2, none⟩ sv2.sl) := o2.comp o3
  have s1 := o1.size
  have s2 := o.size
  have s3 := o3.size
  have hlt : nb < w.heap.size := hb.lt
  have hown : ∀ g, g ∈ ownG sv.sl → g < w.heap.size := fun g hg => h.lt g (h4 g hg).1
  have hnb2 : nb ∉ ownG sv2.sl := fun hg => (hn nb hg).elim (fun q => (h4 nb q).2 rfl) (fun q => by omega)
  refine ⟨ownG sv.sl ++ [nb], fun g => F g ∨ (w.heap.size ≤ g ∧ g < w2.heap.size), o4, ?_, ⟨?_, .inl h.mem, h.f0, h.f1, h.w1, h.w2, ?_, ?_, sv2, els ++ [e], ?_, hr.only o3 (fun g hg hh => by simp at hh; exact hnb2 (hh ▸ hg)), by simp, ?_, ?_⟩, fun g hg => hg.elim .inl (fun q => .inr q.1)⟩
  · intro g hg
    rcases List.mem_append.1 hg with q | q
    · exact (h4 g q).1
    · simp at q
      exact q ▸ h.mem
  · intro g hg
    rcases hg with q | q
    · have := h.lt g q; omega
    · omega
  · simp
    omega
  · intro x hm
    rcases List.mem_append.1 hm with q | q
    · exact h.sm x q
    · simp at q
      exact q ▸ hx
  · have b2 := hb.only o2 (fun q => (h4 nb q).2 rfl)
    exact b2.set 2 sv2.sl
  · intro g hg
    refine ⟨?_, fun q => hnb2 (q ▸ hg)⟩
    rcases hn g hg with q | q
    · exact .inl (h4 g q).1
    · exact .inr ⟨by omega, hr.lt g hg⟩
  · intro d hd
    rcases List.mem_append.1 hd with q | q
    · refine (h5 d q).step o4 (fun g hg hF => ?_) (fun g hF => ⟨.inl hF.1, hF.2.1, fun hg => ?_⟩)
      · rcases List.mem_append.1 hg with r | r
        · exact hF.2.2 r
        · simp at r
          exact hF.2.1 r
      · rcases hn g hg with r | r
        · exact hF.2.2 r
        · have := h.lt g hF.1; omega
    · simp at q
      subst q
      intro S w' k hS
      refine he.keep ((o.comp o3).comp k) (fun g hg => ?_)
      rcases List.mem_append.1 hg with r | r
      · rcases List.mem_append.1 r with r | r
        · exact .inl (hown g r)
        · simp at r
          exact .inl (r ▸ hlt)
      · by_cases c : g < w.heap.size
        · exact .inl c
        · by_cases c2 : w1.heap.size ≤ g
          · exact .inr c2
          · exact absurd ⟨.inr ⟨by omega, by omega⟩, fun q => by omega, fun q => (hn g q).elim (fun z => c (hown g z)) (fun z => c2 z)⟩ (hS g r)
/-- What is found. -/
def lookR (f : Int) (ms : List MV) (a : Int) : Option MV := if a < f then none else ms[(a - f).toNat]?
def leftO (f wd : Int) (ms : List MV) : Option MV := if (f + ms.length) % wd = 0 then none else lookR f ms (f + ms.length - 1)
def aboveO (f wd : Int) (ms : List MV) : Option MV := lookR f ms (f + ms.length - wd)
def lastO (f : Int) (ms : List MV) : Option MV := lookR f ms (f + ms.length - 1)
def ansM (o : Option MV) : MV := o.getD m0
/-- What Left, Above and Last return. -/
def Found (w w' : World) (o : Option MV) (e : Ending) : Prop := ∃ rv vv bv, e = .returned (.tuple #[mV (ansM o) rv vv bv, .bool o.isSome]) ∧ OwnM w w' (ansM o) rv vv bv
theorem lookR_mem {f : Int} {ms : List MV} {a : Int} {x : MV} (h : lookR f ms a = some x) : x ∈ ms := by
  unfold lookR at h
  split at h
  · cases h
  · exact List.mem_of_getElem? h
theorem ownM_m0 {w w' : World} (o : Only [] w w') : OwnM w w' m0 (.slice none 0 0) (.slice none 0 0) (.slice none 0 0) :=
  ⟨RowI.nil _, by simp [ownI, Value.ownBlock], RowG.nil _, by simp [ownG, Value.ownBlock], (ownB_none w).step o⟩
end Go.Proofs.Ytfmfknjjhemnoaa

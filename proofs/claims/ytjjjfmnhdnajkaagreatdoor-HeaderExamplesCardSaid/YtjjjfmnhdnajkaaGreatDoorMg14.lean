/- Blocks of cells as arrays; the program's head in memory; slices of commands that it holds. -/
/- The reference's scan (U, Se, Range, Ranged, Signed, commands) and its small functions. -/
/- Structs and cells that are loaded from blocks, and stored into them. -/
/- Headers and parameter sets in memory: loads, stores, results that lie in cells. -/
/- The laws' own check, read, write, At and bitsOf. -/
import Derived.Test.YtjjjfmnhdnajkaaGreatDoorMkP
import Derived.Test.YtjjjfmnhdnajkaaGreatDoorMg1
import Derived.Test.YtjjjfmnhdnajkaaGreatDoorMg9
import Derived.RangeFuncBox
import Derived.Test.YtjjjfmnhdnajkaaGreatDoorMg10
import Derived.Test.YtjjjfmnhdnajkaaGreatDoorMg8
import Derived.Test.YtjjjfmnhdnajkaaGreatDoorMg2
import Derived.Laws.IdiomCopy
import Derived.Deep.QuietTactic
import Derived.BigQuiet
section
set_option maxRecDepth 20000
namespace Go.Proofs.YtjjjfmnhdnajkaaGreatDoor
open Go.RowKit
set_option linter.unusedVariables false
set_option linter.unusedSimpArgs false

/-- Block k holds the cells a. -/
def Blk (w : World) (k : Nat) (t : TypeId) (a : Array Value) : Prop := w.heap[k]? = some (.cells a t (0, 0))
section
variable {w w' : World} {k : Nat} {t : TypeId} {a : Array Value}
theorem Blk.lt (h : Blk w k t a) : k < w.heap.size := (Array.getElem?_eq_some_iff.1 h).1
theorem Blk.cell (h : Blk w k t a) {i : Nat} {v : Value} (hi : a[i]? = some v) : w.cell? ⟨k, i, none⟩ = some v := by simp [World.cell?, show w.heap[k]? = _ from h, hi]
theorem Blk.frozen (h : Blk w k t a) (i : Nat) : w.frozen? ⟨k, i, none⟩ = false := by simp [World.frozen?, show w.heap[k]? = _ from h]
theorem Blk.new (w : World) (t : TypeId) (a : Array Value) : Blk (w.alloc (.cells a t)) w.heap.size t a := World.alloc_heap_new w _
theorem Blk.set (h : Blk w k t a) (i : Nat) (v : Value) : Blk (w.setCell ⟨k, i, none⟩ v) k t (a.setIfInBounds i v) := by
  obtain ⟨hlt, hk⟩ := Array.getElem?_eq_some_iff.1 h
  show (w.heap.modify k _)[k]? = _
  rw [Array.getElem?_eq_getElem (by rw [Array.size_modify]; exact hlt), Array.getElem_modify_self, hk]
  rfl
theorem Blk.only {S : List Nat} (h : Blk w k t a) (o : Only S w w') (hk : k ∉ S) : Blk w' k t a := (o.block k h.lt hk).trans h
theorem Blk.drewN (h : Blk w k t a) (n : Nat) : Blk (w.drewN n) k t a := h
theorem Blk.same (h : Blk w k t a) {i : Nat} {v : Value} (hi : a[i]? = some v) : a.setIfInBounds i v = a := by
  apply Array.ext
  · simp
  · intro j h1 h2
    rw [Array.getElem_setIfInBounds]
    split
    · rename_i e
      subst e
      rw [Array.getElem?_eq_getElem (by simpa using h1)] at hi
      exact (Option.some.inj hi).symm
    · rfl
end
/-- The cells of a header, whose lists are the slices mv and kv. -/
def hC (x : HV) (mv kv : Value) : List Value :=
  [.int .i64 x.fi, .bool x.intra, .bool x.whole, .int .i64 x.pps, .int .i64 x.fr, .int .i64 x.idr, .int .i64 x.poc, .bool x.over, .int .i64 x.refs, .bool x.listed, mv, .bool x.f0, .bool x.f1, .bool x.ad, kv, .int .i64 x.ini, .int .i64 x.qp, .int .i64 x.fil, .int .i64 x.a, .int .i64 x.b]
def sL (x : SV) : List Value := [.int .u8 x.pr, .int .u8 x.fl, .int .u8 x.lv, .int .i64 x.id, .int .i64 x.fb, .int .i64 x.pb, .int .i64 x.rf, .int .i64 x.wd, .int .i64 x.ht]
def pL (x : PV) : List Value := [.int .i64 x.id, .int .i64 x.sps, .bool x.cab, .int .i64 x.rf, .int .i64 x.r1, .int .i64 x.qp, .int .i64 x.qs, .int .i64 x.ch, .bool x.db, .bool x.nt]
/-- The cells of a head. -/
def hdC (x : HV) (mv kv : Value) (un : UN) (d1 d2 : Value) : Array Value := (hC x mv kv ++ (([.int .u8 un.ref, .bool un.idr] : List Value) ++ (pL un.p ++ (sL un.s ++ [d1, d2])))).toArray
/-- The header as a value. -/
def hV (x : HV) (mv kv : Value) : Value := .agg (hC x mv kv).toArray
/-- A slice of commands, apart from the blocks of a list. -/
structure Sl (w : World) (v : Value) (l : List (Int × Int × Int)) (S : List Nat) : Prop where
  h : HoldsM w v l
  d : ∀ ad n c, v = .slice (some ad) n c → l ≠ [] → ad.block ∉ S
section
variable {w w' : World} {v : Value} {l : List (Int × Int × Int)} {S T : List Nat}
theorem HoldsM.only2 (h : HoldsM w v l) (k : Only S w w') (hd : ∀ ad n c, v = .slice (some ad) n c → l ≠ [] → ad.block ∉ S) : HoldsM w' v l := by
  obtain ⟨a, c, rfl, h1, h2, h3⟩ := h
  refine ⟨a, c, rfl, h1, h2, ?_⟩
  by_cases h0 : l = []
  · exact .inl h0
  · rcases h3 with h3 | ⟨b, o, rfl, hc⟩
    · exact absurd h3 h0
    · exact .inr ⟨b, o, rfl, fun j x hj => (hc j x hj).only k (hd _ _ _ rfl h0)⟩
theorem Sl.only (h : Sl w v l S) (k : Only T w w') (hT : ∀ x, x ∈ T → x ∈ S ∨ w.heap.size ≤ x) : Sl w' v l S := by
  refine ⟨h.h.only2 k (fun ad n c e hl hm => ?_), h.d⟩
  rcases hT _ hm with e2 | e2
  · exact h.d ad n c e hl e2
  · subst e
    exact absurd (h.h.lt hl) (by omega)
theorem Sl.mono (h : Sl w v l S) (hT : ∀ x, x ∈ T → x ∈ S ∨ w.heap.size ≤ x) : Sl w v l T := by
  refine ⟨h.h, fun ad n c e hl hm => ?_⟩
  rcases hT _ hm with e2 | e2
  · exact h.d ad n c e hl e2
  · subst e
    exact absurd (h.h.lt hl) (by omega)
theorem Sl.none (w : World) (S : List Nat) : Sl w (.slice none 0 0) [] S := ⟨holdsM_none w, fun _ _ _ e => by cases e⟩
theorem Sl.step (h : Sl w v l S) (k : Only T w w') (hT : ∀ x, x ∈ T → x ∈ S ∨ w.heap.size ≤ x) {U : List Nat} (hU : ∀ x, x ∈ U → x ∈ S ∨ w.heap.size ≤ x) : Sl w' v l U := by
  refine ⟨(h.only k hT).h, fun ad n c e hl hm => ?_⟩
  rcases hU _ hm with e2 | e2
  · exact h.d ad n c e hl e2
  · subst e
    exact absurd (h.h.lt hl) (by omega)
end
/-- How a code lies in memory: its functions, and the number that they captured, in the block K. -/
def CdAt (w : World) (cv : Value) (K : Nat) : Cd → Prop
  | .u n => cv = .agg #[.func (.func 131) #[] #[.pointer (some ⟨K, 0, none⟩)], .func (.func 132) #[] #[.pointer (some ⟨K, 0, none⟩)], .int .i64 0, .int .i64 (2 ^ n.toNat - 1)] ∧ Boxed w K 3 (.int .i64 n)
  | .ue a b => cv = .agg #[.func (.func 133) #[] #[.pointer (some ⟨K, 0, none⟩)], .func (.func 134) #[] #[.pointer (some ⟨K, 0, none⟩)], .int .i64 a, .int .i64 b] ∧ Boxed w K 3 (.int .i64 a)
  | .se a b => cv = .agg #[.func (.func 141) #[] #[], .func (.func 143) #[] #[], .int .i64 a, .int .i64 b] ∧ K < w.heap.size
theorem CdAt.lt {w : World} {cv : Value} {K : Nat} {c : Cd} (h : CdAt w cv K c) : K < w.heap.size := by
  cases c with
  | u n => exact h.2.lt
  | ue a b => exact h.2.lt
  | se a b => exact h.2
theorem CdAt.only {S : List Nat} {w w' : World} {cv : Value} {K : Nat} {c : Cd} (h : CdAt w cv K c) (k : Only S w w') (hS : K ∉ S) : CdAt w' cv K c := by
  cases c with
  | u n => exact ⟨h.1, boxed_only h.2 k hS⟩
  | ue a b => exact ⟨h.1, boxed_only h.2 k hS⟩
  | se a b => exact ⟨h.1, Nat.lt_of_lt_of_le h.2 k.size⟩
/-- How the functions that go through a list lie in memory. -/
def cmsV : Bool → Value
  | false => .agg #[.func (.func 135) #[] #[], .func (.func 136) #[] #[], .func (.func 137) #[] #[]]
  | true => .agg #[.func (.func 138) #[] #[], .func (.func 139) #[] #[], .func (.func 140) #[] #[]]
end Go.Proofs.YtjjjfmnhdnajkaaGreatDoor

end
section
set_option maxRecDepth 20000
namespace Go.Proofs.YtjjjfmnhdnajkaaGreatDoor
open Go.RowKit
set_option linter.unusedVariables false
set_option linter.unusedSimpArgs false

set_option maxHeartbeats 1000000 in
theorem su_any (D c : Nat) (s : ByteArray) (q : Nat) (E : Int) (n : Int) (h1 : 0 ≤ n) (h2 : n ≤ 16) (w : World) (h : Sc w D c E) (hr : Rd w c s q) (hne : D ≠ c) :
    Calls Tryz.prog 88 #[.pointer (some ⟨D, 0, none⟩), .int .i64 n] w fun e w' => e = .returned (.int .i64 (uS s E q n).1) ∧ Sc w' D c (uS s E q n).2.1 ∧ Rd w' c s (uS s E q n).2.2 ∧ Only [c, D] w w' := by
  obtain ⟨hr0, he0, hf0⟩ := h
  have H := hid (Sc.mk hr0 he0 hf0)
  have R := hid hr
  by_cases hE : E = 0
  · subst hE
    rw [uS_zero]
    have U := hid (ru_any c s q n w hr)
    have hlt : (rdU s q n).1 < 2 ^ 16 := by
      unfold rdU
      split
      · exact Nat.two_pow_pos 16
      · split
        · exact Nat.two_pow_pos 16
        · exact Nat.lt_of_lt_of_le (valOf_lt s q n.toNat) (Nat.pow_le_pow_right (by decide) (by omega))
    have p16 : (2 : Nat) ^ 16 = 65536 := by decide
    rw [p16] at hlt
    generalize rdU s q n = r at *
    obtain ⟨v, e, p⟩ := r
    dsimp only at *
    have v1 : (v : Int) ≤ 65535 := by omega
    have v0 : (0 : Int) ≤ (v : Int) := by omega
    clear hlt p16 hr
    go_enter Tryz.func88, Tryz.ntmps88
    go_wp2_with fail
    refine U.out.mono ?_
    rintro e1 w1 ⟨rfl, hR1, hO1⟩
    have S1 := hid (H.out.only hO1 (by simpa using hne))
    have R1 := hid hR1
    have O1 := hid hO1
    have e0 := S1.out.e
    have f0 := S1.out.f
    clear hr0 he0 hf0 hR1 hO1
    go_wp2_with fail
    go_ret
    exact ⟨rfl, S1.out.set e, R1.out.only ((Only.refl [D] _).setCell (.inl (by simp)) _) (by simpa using fun h => hne h.symm), (O1.out.mono (fun k _ h => by simp at h; simp [h])).trans (((Only.refl [D] _).setCell (.inl (by simp)) _).mono (fun k _ h => by simp at h; simp [h]))⟩
  · rw [uS_err _ _ _ _ hE]
    clear hr
    go_enter Tryz.func88, Tryz.ntmps88
    go_wp2_with fail
    go_ret
    exact ⟨rfl, H.out, R.out, Only.refl _ _⟩
set_option maxHeartbeats 1000000 in
theorem sse_any (D c : Nat) (s : ByteArray) (q : Nat) (E : Int) (w : World) (h : Sc w D c E) (hr : Rd w c s q) (hne : D ≠ c) :
    Calls Tryz.prog 91 #[.pointer (some ⟨D, 0, none⟩)] w fun e w' => e = .returned (.int .i64 (seS s E q).1) ∧ Sc w' D c (seS s E q).2.1 ∧ Rd w' c s (seS s E q).2.2 ∧ Only [c, D] w w' := by
  obtain ⟨hr0, he0, hf0⟩ := h
  have H := hid (Sc.mk hr0 he0 hf0)
  have R := hid hr
  by_cases hE : E = 0
  · subst hE
    rw [seS_zero]
    have U := hid (rse_any c s q w hr)
    generalize rdUk s q 0 = r at *
    obtain ⟨v, e, p⟩ := r
    dsimp only at *
    generalize seVal v = sv at *
    clear hr
    go_enter Tryz.func91, Tryz.ntmps91
    go_wp2_with fail
    refine U.out.mono ?_
    rintro e1 w1 ⟨rfl, hR1, hO1⟩
    have S1 := hid (H.out.only hO1 (by simpa using hne))
    have R1 := hid hR1
    have O1 := hid hO1
    have e0 := S1.out.e
    have f0 := S1.out.f
    clear hr0 he0 hf0 hR1 hO1
    go_wp2_with fail
    go_ret
    exact ⟨rfl, S1.out.set e, R1.out.only ((Only.refl [D] _).setCell (.inl (by simp)) _) (by simpa using fun h => hne h.symm), (O1.out.mono (fun k _ h => by simp at h; simp [h])).trans (((Only.refl [D] _).setCell (.inl (by simp)) _).mono (fun k _ h => by simp at h; simp [h]))⟩
  · rw [seS_err _ _ _ hE]
    clear hr
    go_enter Tryz.func91, Tryz.ntmps91
    go_wp2_with fail
    go_ret
    exact ⟨rfl, H.out, R.out, Only.refl _ _⟩
set_option maxHeartbeats 1000000 in
theorem srange_any (D c : Nat) (E : Int) (is : Bool) (w : World) (h : Sc w D c E) :
    Calls Tryz.prog 87 #[.pointer (some ⟨D, 0, none⟩), .bool is] w fun e w' => (∃ v, e = .returned v) ∧ Sc w' D c (rangeS E is) ∧ Only [D] w w' := by
  obtain ⟨hr0, he0, hf0⟩ := h
  have H := hid (Sc.mk hr0 he0 hf0)
  by_cases hE : E = 0
  · subst hE
    cases is with
    | true =>
      rw [show rangeS 0 true = 0 from by simp [rangeS]]
      go_enter Tryz.func87, Tryz.ntmps87
      go_wp2_with fail
      exact bodyPost_end (results_none rfl _ _ _) rfl ⟨⟨_, rfl⟩, H.out, Only.refl _ _⟩
    | false =>
      rw [show rangeS 0 false = 3 from by simp [rangeS]]
      go_enter Tryz.func87, Tryz.ntmps87
      go_wp2_with fail
      exact bodyPost_end (results_none rfl _ _ _) rfl ⟨⟨_, rfl⟩, H.out.set 3, (Only.refl [D] _).setCell (.inl (by simp)) _⟩
  · rw [show rangeS E is = E from by simp [rangeS, hE]]
    go_enter Tryz.func87, Tryz.ntmps87
    go_wp2_with fail
    exact bodyPost_end (results_none rfl _ _ _) rfl ⟨⟨_, rfl⟩, H.out, Only.refl _ _⟩
set_option maxHeartbeats 1000000 in
theorem srng_any (D c : Nat) (s : ByteArray) (q : Nat) (E most : Int) (w : World) (h : Sc w D c E) (hr : Rd w c s q) (hne : D ≠ c) :
    Calls Tryz.prog 89 #[.pointer (some ⟨D, 0, none⟩), .int .i64 most] w fun e w' => e = .returned (.int .i64 (rngS s E q most).1) ∧ Sc w' D c (rngS s E q most).2.1 ∧ Rd w' c s (rngS s E q most).2.2 ∧ Only [c, D] w w' := by
  have U := hid (sue_any D c s q E w h hr hne)
  unfold rngS
  generalize ueS s E q = r at *
  obtain ⟨v, e, p⟩ := r
  dsimp only at *
  have N := hid hne
  clear h hr hne
  go_enter Tryz.func89, Tryz.ntmps89
  go_wp2_with fail
  refine U.out.mono ?_
  rintro e1 w1 ⟨rfl, hS1, hR1, hO1⟩
  have S1 := hid hS1
  have R1 := hid hR1
  have O1 := hid hO1
  clear hS1 hR1 hO1
  go_wp2_with fail
  refine (srange_any D c e (decide (v ≤ most)) w1 S1.out).mono ?_
  rintro e2 w2 ⟨⟨z, rfl⟩, hS2, hO2⟩
  go_wp2_with fail
  go_ret
  exact ⟨rfl, hS2, R1.out.only hO2 (by simpa using fun h => N.out h.symm), O1.out.trans (hO2.mono (fun k _ h => by simp at h; simp [h]))⟩
set_option maxHeartbeats 1000000 in
theorem ssgn_any (D c : Nat) (s : ByteArray) (q : Nat) (E lo hi : Int) (w : World) (h : Sc w D c E) (hr : Rd w c s q) (hne : D ≠ c) :
    Calls Tryz.prog 93 #[.pointer (some ⟨D, 0, none⟩), .int .i64 lo, .int .i64 hi] w fun e w' => e = .returned (.int .i64 (sgnS s E q lo hi).1) ∧ Sc w' D c (sgnS s E q lo hi).2.1 ∧ Rd w' c s (sgnS s E q lo hi).2.2 ∧ Only [c, D] w w' := by
  have U := hid (sse_any D c s q E w h hr hne)
  unfold sgnS
  generalize seS s E q = r at *
  obtain ⟨v, e, p⟩ := r
  dsimp only at *
  have WI := hid (fun w => rwithin6_any v lo hi w)
  generalize inB v lo hi = b at *
  have N := hid hne
  clear h hr hne
  go_enter Tryz.func93, Tryz.ntmps93
  go_wp2_with fail
  refine U.out.mono ?_
  rintro e1 w1 ⟨rfl, hS1, hR1, hO1⟩
  have S1 := hid hS1
  have R1 := hid hR1
  have O1 := hid hO1
  clear hS1 hR1 hO1
  go_wp2_with fail
  refine (WI.out _).mono ?_
  rintro e3 w3 ⟨rfl, hw3⟩
  rw [hw3]
  clear hw3
  go_wp2_with fail
  refine (srange_any D c e b w1 S1.out).mono ?_
  rintro e2 w2 ⟨⟨z, rfl⟩, hS2, hO2⟩
  go_wp2_with fail
  go_ret
  exact ⟨rfl, hS2, R1.out.only hO2 (by simpa using fun h => N.out h.symm), O1.out.trans (hO2.mono (fun k _ h => by simp at h; simp [h]))⟩
set_option maxHeartbeats 1000000 in
theorem scommands_any (D c : Nat) (s : ByteArray) (q : Nat) (E : Int) (m : Bool) (w : World) (h : Sc w D c E) (hr : Rd w c s q) (hne : D ≠ c) :
    Calls Tryz.prog 90 #[.pointer (some ⟨D, 0, none⟩), .bool m] w fun e w' => ∃ sv, e = .returned sv ∧ Sc w' D c (lstS s m E q).2.1 ∧ Rd w' c s (lstS s m E q).2.2 ∧ Only [c, D] w w' ∧ HoldsM w' sv (lstS s m E q).1 ∧ FreshM w sv (lstS s m E q).1 := by
  obtain ⟨hr0, he0, hf0⟩ := h
  have H := hid (Sc.mk hr0 he0 hf0)
  have R := hid hr
  by_cases hE : E = 0
  · subst hE
    rw [lstS_zero]
    have U := hid (rread9_any m c s q w hr)
    generalize readI m s q = r at *
    obtain ⟨l, e, p⟩ := r
    dsimp only at *
    clear hr
    go_enter Tryz.func90, Tryz.ntmps90
    go_wp2_with fail
    refine U.out.mono ?_
    rintro e1 w1 ⟨sv, rfl, hH1, hR1, hO1, hF1⟩
    have S1 := hid (H.out.only hO1 (by simpa using hne))
    have R1 := hid hR1
    have O1 := hid hO1
    have H1 := hid hH1
    have F1 := hid hF1
    have e0 := S1.out.e
    have f0 := S1.out.f
    have DL := hid (show D < w.heap.size from H.out.lt)
    obtain ⟨sa, sc, hsv, _⟩ := id hH1
    subst hsv
    clear hr0 he0 hf0 hR1 hO1 hH1 hF1
    go_wp2_with fail
    go_ret
    exact ⟨_, rfl, S1.out.set e, R1.out.only ((Only.refl [D] _).setCell (.inl (by simp)) _) (by simpa using fun h => hne h.symm), (O1.out.mono (fun k _ h => by simp at h; simp [h])).trans (((Only.refl [D] _).setCell (.inl (by simp)) _).mono (fun k _ h => by simp at h; simp [h])),
      H1.out.fresh F1.out ((Only.refl [D] _).setCell (.inl (by simp)) _) (fun x hx => by rw [List.mem_singleton.1 hx]; exact DL.out), F1.out⟩
  · rw [lstS_err _ _ _ _ hE]
    clear hr
    go_enter Tryz.func90, Tryz.ntmps90
    go_wp2_with fail
    go_ret
    exact ⟨_, rfl, H.out, R.out, Only.refl _ _, holdsM_none _, freshM_nil _⟩

theorem rwithin10_any (v lo hi : Int) (w : World) : Calls Tryz.prog 92 #[.int .i64 v, .int .i64 lo, .int .i64 hi] w fun e w' => e = .returned (.bool (inB v lo hi)) ∧ w' = w := by
  by_cases h1 : lo ≤ v <;> by_cases h2 : v ≤ hi
  all_goals
    rw [show inB v lo hi = _ from by unfold inB; simp only [h1, h2]; rfl]
    go_enter Tryz.func92, Tryz.ntmps92
    go_wp2_with fail
    go_ret
    exact ⟨rfl, rfl⟩
theorem runit_any (ref : Int) (idr : Bool) (r0 : 0 ≤ ref) (w : World) : Calls Tryz.prog 52 #[.int .u8 ref, .bool idr] w fun e w' => e = .returned (.int .i64 (if (decide (ref ≤ 3) && (decide (0 < ref) || !idr)) = true then 0 else 2)) ∧ w' = w := by
  by_cases h1 : ref ≤ 3
  · by_cases h2 : 0 < ref
    · have d1 : decide (ref ≤ 3) = true := by simpa using h1
      have d2 : decide (0 < ref) = true := by simpa using h2
      rw [d1, d2]
      have h3 : ¬ 3 < ref := by omega
      have h4 : (ref == 0) = false := by simp; omega
      clear d1 d2 h1 h2
      cases idr
      all_goals
        go_enter Tryz.func52, Tryz.ntmps52
        go_wp2_with fail
        go_ret
        exact ⟨rfl, rfl⟩
    · obtain rfl : ref = 0 := by omega
      clear h1 h2 r0
      cases idr
      all_goals
        go_enter Tryz.func52, Tryz.ntmps52
        go_wp2_with fail
        go_ret
        exact ⟨rfl, rfl⟩
  · have d1 : decide (ref ≤ 3) = false := by simpa using h1
    rw [d1]
    have h3 : 3 < ref := by omega
    clear d1 h1
    go_enter Tryz.func52, Tryz.ntmps52
    go_wp2_with fail
    go_ret
    exact ⟨rfl, rfl⟩
/-- What lacks answers. -/
def lkR (a b : Bool) : Int := if (a || b) = true then 0 else 2
theorem rlacks_any (a b : Bool) (w : World) : Calls Tryz.prog 56 #[.bool a, .bool b] w fun e w' => e = .returned (.int .i64 (lkR a b)) ∧ w' = w := by
  cases a <;> cases b
  all_goals
    go_enter Tryz.func56, Tryz.ntmps56
    go_wp2_with fail
    go_ret
    exact ⟨rfl, rfl⟩
/-- What number answers. -/
def nmR (has : Bool) (n lo hi : Int) : Int := if has = true then (if inB n lo hi = true then 0 else 3) else if n = 0 then 0 else 2
set_option maxHeartbeats 1000000 in
theorem rnumber_any (has : Bool) (n lo hi : Int) (w : World) : Calls Tryz.prog 55 #[.bool has, .int .i64 n, .int .i64 lo, .int .i64 hi] w fun e w' => e = .returned (.int .i64 (nmR has n lo hi)) ∧ w' = w := by
  have WI := hid (fun w => rwithin10_any n lo hi w)
  unfold nmR
  cases has
  · by_cases h0 : n = 0
    · subst h0
      have L := hid (fun w => rlacks_any false true w)
      rw [show lkR false true = 0 from rfl] at L
      clear WI
      go_enter Tryz.func55, Tryz.ntmps55
      go_wp2_with fail
      refine (L.out _).mono ?_
      rintro e w1 ⟨rfl, rfl⟩
      go_wp2_with fail
      go_ret
      exact ⟨rfl, rfl⟩
    · have L := hid (fun w => rlacks_any false false w)
      have h1 : (n == 0) = false := by simpa using h0
      rw [if_neg h0]
      clear WI h0
      go_enter Tryz.func55, Tryz.ntmps55
      go_wp2_with fail
      refine (L.out _).mono ?_
      rintro e w1 ⟨rfl, rfl⟩
      go_wp2_with fail
      go_ret
      exact ⟨rfl, rfl⟩
  · generalize inB n lo hi = b at *
    cases b
    all_goals
      go_enter Tryz.func55, Tryz.ntmps55
      go_wp2_with fail
      refine (WI.out _).mono ?_
      rintro e w1 ⟨rfl, rfl⟩
      go_wp2_with fail
      go_ret
      exact ⟨rfl, rfl⟩
set_option maxHeartbeats 1000000 in
theorem rlist_any (has m : Bool) (a : Value) (l : List (Int × Int × Int)) (w : World) (ha : HoldsM w a l) (hk : OksM l) : Calls Tryz.prog 57 #[.bool has, .bool m, a] w fun e w' => e = .returned (.int .i64 (lstE has m l)) ∧ Only [] w w' := by
  have C := hid (rcheck_any m a l w ha hk)
  unfold lstE
  obtain ⟨a, c, rfl, hc1, hc2, _⟩ := ha
  have hb : (l.length : Int) ≤ 9223372036854775807 := by unfold maxLen at hc2; omega
  clear hc1 hc2
  cases has
  · by_cases h0 : l = []
    · subst h0
      have L := hid (fun w => rlacks_any false true w)
      rw [show lkR false true = 0 from rfl] at L
      simp only [List.length_nil] at *
      clear C
      go_enter Tryz.func57, Tryz.ntmps57
      go_wp2_with fail
      refine (L.out _).mono ?_
      rintro e w1 ⟨rfl, rfl⟩
      go_wp2_with fail
      go_ret
      exact ⟨rfl, Only.refl _ _⟩
    · have L := hid (fun w => rlacks_any false false w)
      have hp : 0 < l.length := List.length_pos_iff.2 h0
      rw [if_neg h0]
      have h1 : ((l.length : Int) == 0) = false := by rw [beq_eq_false_iff_ne]; omega
      have h2 : ¬ l = [] := h0
      clear C h0
      go_enter Tryz.func57, Tryz.ntmps57
      go_wp2_with fail
      refine (L.out _).mono ?_
      rintro e w1 ⟨rfl, rfl⟩
      go_wp2_with fail
      go_ret
      exact ⟨rfl, Only.refl _ _⟩
  · generalize checkI m l = z at *
    go_enter Tryz.func57, Tryz.ntmps57
    go_wp2_with fail
    refine C.out.mono ?_
    rintro e w1 ⟨rfl, hO⟩
    go_wp2_with fail
    go_ret
    exact ⟨rfl, hO⟩
set_option maxHeartbeats 1000000 in
theorem rbit10_any (b : Nat) (sv : Value) (L : List Bool) (v : Bool) (w : World) (h : RWr w b sv L) (hL : L.length ≤ 1000000) : Calls Tryz.prog 59 #[.pointer (some ⟨b, 0, none⟩), .bool v] w fun e w' => (∃ z, e = .returned z) ∧ ∃ sv', RPut w w' b sv sv' (L ++ [v]) := by
  have P := hid (fun (V : Nat) (hV : V ≤ 1) => show Calls Tryz.prog 19 #[.pointer (some ⟨b, 0, none⟩), .int .i64 1, .int .u64 V] w fun e w' => e = .returned (.int .i64 0) ∧ ∃ sv', RPut w w' b sv sv' (L ++ bitsOf 1 V) from by
    have := rput_any b sv L 1 V w h (by omega) (by omega)
    rw [show wrP L 1 V = (0, L ++ bitsOf 1 V) from by unfold wrP; rw [if_neg (by decide), if_neg (by simp; omega)]; rfl] at this
    exact this)
  clear h hL
  cases v
  · have Q := hid (P.out 0 (by omega))
    rw [show bitsOf 1 0 = [false] from by decide] at Q
    clear P
    go_enter Tryz.func59, Tryz.ntmps59
    go_wp2_with fail
    refine Q.out.mono ?_
    rintro e w1 ⟨rfl, hP⟩
    go_wp2_with fail
    exact bodyPost_end (results_none rfl _ _ _) rfl ⟨⟨_, rfl⟩, hP⟩
  · have Q := hid (P.out 1 (by omega))
    rw [show bitsOf 1 1 = [true] from by decide] at Q
    clear P
    go_enter Tryz.func59, Tryz.ntmps59
    go_wp2_with fail
    refine Q.out.mono ?_
    rintro e w1 ⟨rfl, hP⟩
    go_wp2_with fail
    exact bodyPost_end (results_none rfl _ _ _) rfl ⟨⟨_, rfl⟩, hP⟩
set_option maxHeartbeats 1000000 in
theorem rrefs_any (x : HV) (mv kv : Value) (p : PV) (w : World) {a1 a2 : Option Addr} {n1 n2 c1 c2 : Nat} (h1 : mv = .slice a1 n1 c1) (h2 : kv = .slice a2 n2 c2) :
    Calls Tryz.prog 23 #[hV x mv kv, pV p] w fun e w' => e = .returned (.int .i64 (if x.intra = true then 0 else if x.over = true then x.refs else p.rf)) ∧ Only [] w w' := by
  subst h1 h2
  obtain ⟨fi, intra, whole, pps, fr, idr, poc, over, refs, listed, mods, f0, f1, ad, marks, ini, qp, fil, a, b⟩ := x
  simp only [hV, hC]
  cases intra <;> cases over
  all_goals
    go_enter Tryz.func23, Tryz.ntmps23
    go_wp2_with fail
    go_ret
    exact ⟨rfl, by first | exact ((Only.refl [] w).alloc _).alloc _ | exact (Only.refl [] w).alloc _⟩
set_option maxHeartbeats 1000000 in
theorem rqp_any (x : HV) (mv kv : Value) (p : PV) (w : World) {a1 a2 : Option Addr} {n1 n2 c1 c2 : Nat} (h1 : mv = .slice a1 n1 c1) (h2 : kv = .slice a2 n2 c2) :
    Calls Tryz.prog 25 #[hV x mv kv, pV p] w fun e w' => e = .returned (.int .i64 (wrap64 (wrap64 (26 + p.qp) + x.qp))) ∧ Only [] w w' := by
  subst h1 h2
  simp only [hV, hC]
  go_enter Tryz.func25, Tryz.ntmps25
  go_wp2_with fail
  first
    | (go_ret; exact ⟨rfl, by first | exact ((Only.refl [] w).alloc _).alloc _ | exact (Only.refl [] w).alloc _⟩)
    | (go_quiet (fail)
       go_wp2_with fail
       go_ret
       exact ⟨rfl, (((Only.refl [] w).alloc _).alloc _).drewN _⟩)
end Go.Proofs.YtjjjfmnhdnajkaaGreatDoor

end
section
set_option maxRecDepth 20000
namespace Go.Proofs.YtjjjfmnhdnajkaaGreatDoor
open Go.RowKit
set_option linter.unusedVariables false
set_option linter.unusedSimpArgs false

theorem info_hdr : (Tryz.prog.info? 34).map (·.size) = some 20 := by kernel_rfl
theorem info_pps : (Tryz.prog.info? 24).map (·.size) = some 10 := by kernel_rfl
theorem info_sps : (Tryz.prog.info? 27).map (·.size) = some 9 := by kernel_rfl
/-- A struct is loaded from its block. -/
theorem load_blk {P : Program} {w : World} {ops : Array Oper} {rest : List Oper} {o : Oper} {a : Act} {Q : Exit → Act → World → Prop} (hg : o.guard = none) (t : TypeId) (x : Operand) (ho : o.op = .load t x) (k : Nat) (T : TypeId) (cs : List Value)
    (hx : a.eval x = .pointer (some ⟨k, 0, none⟩)) (hB : Blk w k T cs.toArray) (hl : ∀ w, (∀ j v, cs[j]? = some v → w.cell? ⟨k, j, none⟩ = some v) → (Instr.loadAt t (.pointer (some ⟨k, 0, none⟩))).run P w = .ok (.agg cs.toArray) w)
    (h : wpList P ops Q rest (a.put o.dst (.agg cs.toArray)) w) : wpList P ops Q (o :: rest) a w := by
  refine wpList_plain hg fun K hK => ?_
  have hl' := hl w (fun j v hj => hB.cell (by simpa using hj))
  unfold Oper.wp execOp
  simp only [ho, hx]
  simp [hl', Result.andThen]
  exact hK _ _ (by simpa using h)
theorem hl_hdr (k : Nat) (x : HV) (mv kv : Value) (w : World) (hc : ∀ j v, (hC x mv kv)[j]? = some v → w.cell? ⟨k, j, none⟩ = some v) : (Instr.loadAt 34 (.pointer (some ⟨k, 0, none⟩))).run Tryz.prog w = .ok (.agg (hC x mv kv).toArray) w := by
  have add : ∀ j : Nat, (⟨k, 0, none⟩ : Addr).add j = ⟨k, j, none⟩ := fun j => by cases j <;> simp [Addr.add]
  have hl := run_loadCells_list (P := Tryz.prog) w ⟨k, 0, none⟩ (hC x mv kv) (fun j v hj => by rw [add]; exact hc j v hj)
  rw [show (hC x mv kv).length = 20 from rfl] at hl
  simp only [Instr.loadAt, Instr.sureAddr, Sem.run_bind, Sem.run_pure, Result.andThen_ok, loadVar]
  simp [hl]
theorem hl_pps (k : Nat) (x : PV) (w : World) (hc : ∀ j v, (pL x)[j]? = some v → w.cell? ⟨k, j, none⟩ = some v) : (Instr.loadAt 24 (.pointer (some ⟨k, 0, none⟩))).run Tryz.prog w = .ok (.agg (pL x).toArray) w := by
  have add : ∀ j : Nat, (⟨k, 0, none⟩ : Addr).add j = ⟨k, j, none⟩ := fun j => by cases j <;> simp [Addr.add]
  have hl := run_loadCells_list (P := Tryz.prog) w ⟨k, 0, none⟩ (pL x) (fun j v hj => by rw [add]; exact hc j v hj)
  rw [show (pL x).length = 10 from rfl] at hl
  simp only [Instr.loadAt, Instr.sureAddr, Sem.run_bind, Sem.run_pure, Result.andThen_ok, loadVar]
  simp [hl]
theorem hl_sps (k : Nat) (x : SV) (w : World) (hc : ∀ j v, (sL x)[j]? = some v → w.cell? ⟨k, j, none⟩ = some v) : (Instr.loadAt 27 (.pointer (some ⟨k, 0, none⟩))).run Tryz.prog w = .ok (.agg (sL x).toArray) w := by
  have add : ∀ j : Nat, (⟨k, 0, none⟩ : Addr).add j = ⟨k, j, none⟩ := fun j => by cases j <;> simp [Addr.add]
  have hl := run_loadCells_list (P := Tryz.prog) w ⟨k, 0, none⟩ (sL x) (fun j v hj => by rw [add]; exact hc j v hj)
  rw [show (sL x).length = 9 from rfl] at hl
  simp only [Instr.loadAt, Instr.sureAddr, Sem.run_bind, Sem.run_pure, Result.andThen_ok, loadVar]
  simp [hl]
/-- The checks of unit and parameter sets, in their order. -/
theorem unE_cases (un : UN) : (isU un = false ∧ unE un = 2) ∨ (isU un = true ∧ okS un.s = false ∧ unE un = 3) ∨ (isU un = true ∧ okS un.s = true ∧ okP un.p = false ∧ unE un = 3) ∨
    (isU un = true ∧ okS un.s = true ∧ okP un.p = true ∧ un.p.sps ≠ un.s.id ∧ unE un = 2) ∨ (isU un = true ∧ okS un.s = true ∧ okP un.p = true ∧ un.p.sps = un.s.id ∧ unE un = 0) := by
  unfold unE
  cases isU un <;> cases okS un.s <;> cases okP un.p <;> by_cases h : un.p.sps = un.s.id <;> simp [h]
/-- Cells of a block, one after another. -/
def setsA (a : Array Value) : Nat → List Value → Array Value
  | _, [] => a
  | o, v :: r => setsA (a.setIfInBounds o v) (o + 1) r
theorem Blk.sets {k : Nat} {t : TypeId} : ∀ (cs : List Value) (o : Nat) (w : World) (a : Array Value), Blk w k t a → Blk (w.setCells k o cs) k t (setsA a o cs)
  | [], _, _, _, h => h
  | v :: r, o, w, a, h => Blk.sets r (o + 1) _ _ (h.set o v)
theorem only_setCells {k : Nat} : ∀ (cs : List Value) (o : Nat) (w : World), Only [k] w (w.setCells k o cs)
  | [], _, w => Only.refl _ w
  | v :: r, o, w => ((Only.refl [k] w).setCell (p := ⟨k, o, none⟩) (.inl (by simp)) v).trans (only_setCells r (o + 1) _)
theorem wpList_store_cells {P : Program} {w w' : World} {ops : Array Oper} {rest : List Oper} {o : Oper} {a : Act} {Q : Exit → Act → World → Prop} (hg : o.guard = none) (t : TypeId) (x y : Operand) (ho : o.op = .store t x y)
    (A off : Nat) (cs : Array Value) (hx : a.eval x = .pointer (some ⟨A, off, none⟩)) (hy : a.eval y = .agg cs) (hi : (P.info? t).map (·.size) = some cs.size)
    (hc : ∀ j, j < cs.toList.length → (w.cell? ⟨A, off + 0 + j, none⟩).isSome = true) (hf : ∀ j, j < cs.toList.length → w.frozen? ⟨A, off + 0 + j, none⟩ = false) (h1 : ∀ v ∈ cs.toList, v.oneCell' = true)
    (hw : w' = w.setCells A (off + 0) cs.toList) (h : wpList P ops Q rest (a.put o.dst undef) w') : wpList P ops Q (o :: rest) a w := by
  subst hw
  refine wpList_plain hg fun K hK => ?_
  have hst := run_storeCells_cells (P := P) A off cs.toList 0 w hc hf h1
  unfold Oper.wp execOp
  cases hq : P.info? t with
  | none => simp [hq] at hi
  | some i =>
    have hs : cs.size = i.size := by simp [hq] at hi; omega
    simp only [ho, hx, hy, Instr.storeAt, Instr.sureAddr, Sem.run_bind, Sem.run_pure, Result.andThen_ok]
    simp [storeVar, sizeOf, typeInfo, hq, Value.cells, hs, hst, Result.andThen]
    exact hK _ _ (by simpa using h)
theorem store_blk {P : Program} {w : World} {ops : Array Oper} {rest : List Oper} {o : Oper} {a : Act} {Q : Exit → Act → World → Prop} (hg : o.guard = none) (t : TypeId) (x y : Operand) (ho : o.op = .store t x y) (k off : Nat) (T : TypeId) (A : Array Value) (cs : List Value)
    (hx : a.eval x = .pointer (some ⟨k, off, none⟩)) (hy : a.eval y = .agg cs.toArray) (hi : (P.info? t).map (·.size) = some cs.length) (hB : Blk w k T A) (hl : off + cs.length ≤ A.size) (h1 : ∀ v ∈ cs, v.oneCell' = true)
    (h : ∀ w', Blk w' k T (setsA A off cs) → Only [k] w w' → wpList P ops Q rest (a.put o.dst undef) w') : wpList P ops Q (o :: rest) a w := by
  refine wpList_store_cells hg t x y ho k off cs.toArray hx hy (by simpa using hi) (fun j hj => ?_) (fun j hj => hB.frozen _) (by simpa using h1) rfl (h _ (hB.sets cs off w A) (only_setCells cs off w))
  have hj' : off + 0 + j < A.size := by simp at hj; omega
  exact Option.isSome_iff_exists.2 ⟨_, hB.cell (Array.getElem?_eq_getElem hj')⟩
theorem setsA_p (x : HV) (un : UN) (mv kv d1 d2 : Value) (p : PV) : setsA (hdC x mv kv un d1 d2) 22 (pL p) = hdC x mv kv { un with p := p } d1 d2 := by
  simp [setsA, hdC, hC, pL, sL]
theorem setsA_s (x : HV) (un : UN) (mv kv d1 d2 : Value) (q : SV) : setsA (hdC x mv kv un d1 d2) 32 (sL q) = hdC x mv kv { un with s := q } d1 d2 := by
  simp [setsA, hdC, hC, pL, sL]
theorem hdC_size (x : HV) (un : UN) (mv kv d1 d2 : Value) : (hdC x mv kv un d1 d2).size = 43 := by simp [hdC, hC, pL, sL]
theorem one_pL (x : PV) : ∀ v ∈ pL x, v.oneCell' = true := by
  intro u h
  simp [pL] at h
  rcases h with h | h | h | h | h | h | h | h | h | h <;> (subst h; rfl)
theorem one_sL (x : SV) : ∀ v ∈ sL x, v.oneCell' = true := by
  intro u h
  simp [sL] at h
  rcases h with h | h | h | h | h | h | h | h | h <;> (subst h; rfl)
end Go.Proofs.YtjjjfmnhdnajkaaGreatDoor

end
section
set_option maxRecDepth 20000
namespace Go.Proofs.YtjjjfmnhdnajkaaGreatDoor
open Go.RowKit
set_option linter.unusedVariables false
set_option linter.unusedSimpArgs false

/-- A struct is loaded from the beginning of its block. -/
theorem load_part {P : Program} {w : World} {ops : Array Oper} {rest : List Oper} {o : Oper} {a : Act} {Q : Exit → Act → World → Prop} (hg : o.guard = none) (t : TypeId) (x : Operand) (ho : o.op = .load t x) (k : Nat) (T : TypeId) (cs : List Value) (A : Array Value)
    (hx : a.eval x = .pointer (some ⟨k, 0, none⟩)) (hB : Blk w k T A) (hA : ∀ (j : Nat) (v : Value), cs[j]? = some v → A[j]? = some v) (hl : ∀ w, (∀ j v, cs[j]? = some v → w.cell? ⟨k, j, none⟩ = some v) → (Instr.loadAt t (.pointer (some ⟨k, 0, none⟩))).run P w = .ok (.agg cs.toArray) w)
    (h : wpList P ops Q rest (a.put o.dst (.agg cs.toArray)) w) : wpList P ops Q (o :: rest) a w := by
  refine wpList_plain hg fun K hK => ?_
  have hl' := hl w (fun j v hj => hB.cell (hA j v hj))
  unfold Oper.wp execOp
  simp only [ho, hx]
  simp [hl', Result.andThen]
  exact hK _ _ (by simpa using h)
theorem hdC_hC (x : HV) (mv kv : Value) (un : UN) (d1 d2 : Value) : ∀ (j : Nat) (v : Value), (hC x mv kv)[j]? = some v → (hdC x mv kv un d1 d2)[j]? = some v := by
  intro j v h
  unfold hdC
  rw [List.getElem?_toArray, List.getElem?_append_left (List.getElem?_eq_some_iff.1 h).1]
  exact h
theorem one_hC (x : HV) {mv kv : Value} (h1 : mv.oneCell' = true) (h2 : kv.oneCell' = true) : ∀ v ∈ hC x mv kv, v.oneCell' = true := by
  intro u h
  simp [hC] at h
  rcases h with h | h | h | h | h | h | h | h | h | h | h | h | h | h | h | h | h | h | h | h <;> (subst h; first | rfl | exact h1 | exact h2)
theorem setsA_h (x y : HV) (mv kv mv' kv' : Value) : setsA (hC x mv kv).toArray 0 (hC y mv' kv') = (hC y mv' kv').toArray := by simp [setsA, hC]
theorem setsA_list : ∀ (cs : List Value) (o : Nat) (a : Array Value), o + cs.length = a.size → (setsA a o cs).toList = a.toList.take o ++ cs := by
  intro cs
  induction cs with
  | nil =>
    intro o a h
    rw [setsA, List.append_nil, List.take_of_length_le (by simp at h ⊢; omega)]
  | cons v r ih =>
    intro o a h
    simp only [List.length_cons] at h
    rw [setsA, ih (o + 1) _ (by simp; omega), Array.toList_setIfInBounds, List.take_succ_eq_append_getElem (by simp; omega)]
    simp [List.take_set]
    exact List.set_eq_of_length_le (by rw [List.length_take]; exact Nat.min_le_left _ _)
theorem setsA_full {cs : List Value} {a : Array Value} (h : cs.length = a.size) : setsA a 0 cs = cs.toArray := by
  apply Array.toList_inj.1
  rw [setsA_list cs 0 a (by omega)]
  simp
theorem info_hdr' (x : HV) (mv kv : Value) : (Tryz.prog.info? 34).map (·.size) = some (hC x mv kv).length := info_hdr
/-- A header's cells, one by one. -/
theorem Blk.hdr {w : World} {k : Nat} {t : TypeId} {x : HV} {mv kv : Value} (h : Blk w k t (hC x mv kv).toArray) :
    w.cell? ⟨k, 0, none⟩ = some (.int .i64 x.fi) ∧ w.cell? ⟨k, 1, none⟩ = some (.bool x.intra) ∧ w.cell? ⟨k, 2, none⟩ = some (.bool x.whole) ∧ w.cell? ⟨k, 3, none⟩ = some (.int .i64 x.pps) ∧ w.cell? ⟨k, 4, none⟩ = some (.int .i64 x.fr) ∧ w.cell? ⟨k, 5, none⟩ = some (.int .i64 x.idr) ∧ w.cell? ⟨k, 6, none⟩ = some (.int .i64 x.poc) ∧
    w.cell? ⟨k, 7, none⟩ = some (.bool x.over) ∧ w.cell? ⟨k, 8, none⟩ = some (.int .i64 x.refs) ∧ w.cell? ⟨k, 9, none⟩ = some (.bool x.listed) ∧ w.cell? ⟨k, 10, none⟩ = some mv ∧ w.cell? ⟨k, 11, none⟩ = some (.bool x.f0) ∧ w.cell? ⟨k, 12, none⟩ = some (.bool x.f1) ∧ w.cell? ⟨k, 13, none⟩ = some (.bool x.ad) ∧ w.cell? ⟨k, 14, none⟩ = some kv ∧
    w.cell? ⟨k, 15, none⟩ = some (.int .i64 x.ini) ∧ w.cell? ⟨k, 16, none⟩ = some (.int .i64 x.qp) ∧ w.cell? ⟨k, 17, none⟩ = some (.int .i64 x.fil) ∧ w.cell? ⟨k, 18, none⟩ = some (.int .i64 x.a) ∧ w.cell? ⟨k, 19, none⟩ = some (.int .i64 x.b) :=
  ⟨h.cell rfl, h.cell rfl, h.cell rfl, h.cell rfl, h.cell rfl, h.cell rfl, h.cell rfl, h.cell rfl, h.cell rfl, h.cell rfl, h.cell rfl, h.cell rfl, h.cell rfl, h.cell rfl, h.cell rfl, h.cell rfl, h.cell rfl, h.cell rfl, h.cell rfl, h.cell rfl⟩

/-! ### Results that lie in cells. -/
theorem lv_hdr {w : World} {k : Nat} {T : TypeId} {x : HV} {mv kv : Value} (h : Blk w k T (hC x mv kv).toArray) : (loadVar 34 ⟨k, 0, none⟩).run Tryz.prog w = .ok (hV x mv kv) w := by
  have add : ∀ j : Nat, (⟨k, 0, none⟩ : Addr).add j = ⟨k, j, none⟩ := fun j => by cases j <;> simp [Addr.add]
  have hl := run_loadCells_list (P := Tryz.prog) w ⟨k, 0, none⟩ (hC x mv kv) (fun j v hj => by rw [add]; exact h.cell (by simpa using hj))
  rw [show (hC x mv kv).length = 20 from rfl] at hl
  simp only [loadVar]
  simp [hl, hV]
theorem lv_pps {w : World} {k : Nat} {T : TypeId} {x : PV} (h : Blk w k T (pL x).toArray) : (loadVar 24 ⟨k, 0, none⟩).run Tryz.prog w = .ok (.agg (pL x).toArray) w := by
  have add : ∀ j : Nat, (⟨k, 0, none⟩ : Addr).add j = ⟨k, j, none⟩ := fun j => by cases j <;> simp [Addr.add]
  have hl := run_loadCells_list (P := Tryz.prog) w ⟨k, 0, none⟩ (pL x) (fun j v hj => by rw [add]; exact h.cell (by simpa using hj))
  rw [show (pL x).length = 10 from rfl] at hl
  simp only [loadVar]
  simp [hl]
theorem lv_sps {w : World} {k : Nat} {T : TypeId} {x : SV} (h : Blk w k T (sL x).toArray) : (loadVar 27 ⟨k, 0, none⟩).run Tryz.prog w = .ok (.agg (sL x).toArray) w := by
  have add : ∀ j : Nat, (⟨k, 0, none⟩ : Addr).add j = ⟨k, j, none⟩ := fun j => by cases j <;> simp [Addr.add]
  have hl := run_loadCells_list (P := Tryz.prog) w ⟨k, 0, none⟩ (sL x) (fun j v hj => by rw [add]; exact h.cell (by simpa using hj))
  rw [show (sL x).length = 9 from rfl] at hl
  simp only [loadVar]
  simp [hl]
theorem res_c {P : Program} {fn : Func} {p : Tmp} {ty : TypeId} {tmps : Array Value} {w : World} {k : Nat} {v : Value} (h : fn.results = #[.cell p ty]) (hp : tmps.getD p undef = .pointer (some ⟨k, 0, none⟩)) (hl : (loadVar ty ⟨k, 0, none⟩).run P w = .ok v w) : (results fn tmps).run P w = .ok v w := by
  simp only [results, h]
  simp [Sem.run_bind, Result.andThen, asAddr] at hp ⊢
  simp [hp, hl]
theorem res_ct {P : Program} {fn : Func} {p u : Tmp} {ty : TypeId} {tmps : Array Value} {w : World} {k : Nat} {v z : Value} (h : fn.results = #[.cell p ty, .tmp u]) (hp : tmps.getD p undef = .pointer (some ⟨k, 0, none⟩)) (hu : tmps.getD u undef = z) (hl : (loadVar ty ⟨k, 0, none⟩).run P w = .ok v w) : (results fn tmps).run P w = .ok (.tuple #[v, z]) w := by
  simp only [results, h]
  simp [Sem.run_bind, Result.andThen] at hp hu ⊢
  simp [hp, hu, hl, asAddr]
theorem res_cc {P : Program} {fn : Func} {p u : Tmp} {ty ty2 : TypeId} {tmps : Array Value} {w : World} {k k2 : Nat} {v v2 : Value} (h : fn.results = #[.cell p ty, .cell u ty2]) (hp : tmps.getD p undef = .pointer (some ⟨k, 0, none⟩)) (hu : tmps.getD u undef = .pointer (some ⟨k2, 0, none⟩)) (hl : (loadVar ty ⟨k, 0, none⟩).run P w = .ok v w) (hl2 : (loadVar ty2 ⟨k2, 0, none⟩).run P w = .ok v2 w) : (results fn tmps).run P w = .ok (.tuple #[v, v2]) w := by
  simp only [results, h]
  simp [Sem.run_bind, Result.andThen] at hp hu ⊢
  simp [hp, hu, hl, hl2, asAddr]
/-- What is there is stored: nothing turns. -/
theorem Blk.setCell_same {w : World} {k : Nat} {t : TypeId} {a : Array Value} (h : Blk w k t a) {i : Nat} {v : Value} (hi : a[i]? = some v) : w.setCell ⟨k, i, none⟩ v = w := by
  have hb := h.set i v
  rw [h.same hi] at hb
  obtain ⟨hlt, hk⟩ := Array.getElem?_eq_some_iff.1 h
  have hh : (w.setCell ⟨k, i, none⟩ v).heap = w.heap := by
    apply Array.ext
    · simp
    · intro j h1 h2
      by_cases e : j = k
      · subst e
        obtain ⟨_, hb'⟩ := Array.getElem?_eq_some_iff.1 hb
        rw [hb', hk]
      · have := Below.heap_setCell w ⟨k, i, none⟩ v j (fun x => e x)
        rw [Array.getElem?_eq_getElem h1, Array.getElem?_eq_getElem h2] at this
        exact Option.some.inj this
  cases w
  simp only [World.setCell] at hh ⊢
  rw [hh]
theorem Blk.setCells_same {k : Nat} {t : TypeId} {a : Array Value} : ∀ (cs : List Value) (o : Nat) (w : World), Blk w k t a → (∀ (j : Nat) v, cs[j]? = some v → a[o + j]? = some v) → w.setCells k o cs = w
  | [], _, _, _, _ => rfl
  | v :: r, o, w, h, hc => by
    rw [World.setCells, h.setCell_same (by simpa using hc 0 v rfl)]
    exact Blk.setCells_same r (o + 1) w h (fun j u hj => by have := hc (j + 1) u (by simpa using hj); rwa [show o + (j + 1) = o + 1 + j by omega] at this)
theorem quiet_store_same {P : Program} {C : World → Prop} {o : Oper} {a : Act} {K : Act → Prop} (t : TypeId) (x y : Operand) (ho : o.op = .store t x y) (k : Nat) (T : TypeId) (cs : List Value)
    (hx : a.eval x = .pointer (some ⟨k, 0, none⟩)) (hy : a.eval y = .agg cs.toArray) (hi : (P.info? t).map (·.size) = some cs.length) (hB : ∀ w, C w → Blk w k T cs.toArray) (h1 : ∀ v ∈ cs, v.oneCell' = true) (hd : o.dst = none) (hk : K a) : o.quiet P a C K := by
  refine ⟨undef, fun w hw => ?_, by rw [hd]; exact hk⟩
  have B := hB w hw
  have hst := run_storeCells_cells (P := P) k 0 cs 0 w (fun j hj => Option.isSome_iff_exists.2 ⟨_, by simp only [Nat.zero_add]; exact B.cell (Array.getElem?_eq_getElem (by simpa using hj))⟩) (fun j hj => B.frozen _) h1
  have hsame := B.setCells_same cs 0 w (fun j v hj => by simpa using hj)
  unfold Oper.quietAt execOp
  cases hq : P.info? t with
  | none => simp [hq] at hi
  | some i =>
    have hs : cs.length = i.size := by simp [hq] at hi; omega
    simp only [ho, hx, hy, Instr.storeAt, Instr.sureAddr, Sem.run_bind, Sem.run_pure, Result.andThen_ok]
    simp [storeVar, sizeOf, typeInfo, hq, Value.cells, hs, hst, Result.andThen, hsame, Oper.quietUpon]
end Go.Proofs.YtjjjfmnhdnajkaaGreatDoor

end
section
set_option maxRecDepth 20000
namespace Go.Proofs.YtjjjfmnhdnajkaaGreatDoor
open Go.RowKit
set_option linter.unusedVariables false

/-- The bits of a list that is valid; none of another one. -/
def bitsI (m : Bool) (l : List (Int × Int × Int)) : List Bool := if checkI m l = 0 then listB m l else []
set_option maxHeartbeats 2000000 in
theorem at9_any (s : ByteArray) (n : Nat) (w : World) (hn : n ≤ 8 * s.size) (hz : s.size ≤ 100000) :
    Calls Tryz.prog 39 #[.string s, .int .i64 n] w fun e w' => ∃ r, e = .returned (.pointer (some ⟨r, 0, none⟩)) ∧ Rd w' r s n ∧ w.heap.size ≤ r ∧ Only [] w w' := by
  have RD := hid (read_any s w (by omega))
  have n0 : (0 : Int) ≤ (n : Int) := by omega
  have n1 : (n : Int) ≤ 8 * (s.size : Int) := by omega
  have s1 : (s.size : Int) ≤ 100000 := by omega
  have s0 : (0 : Int) ≤ (s.size : Int) := by omega
  have NL := hid hn
  clear hn hz
  go_enter Tryz.func39, Tryz.ntmps39
  go_wp2_with fail
  refine RD.out.mono ?_
  rintro e w1 ⟨rfl, hR, hO⟩
  obtain ⟨r, hr⟩ : ∃ r, r = w.heap.size := ⟨_, rfl⟩
  rw [← hr] at hR ⊢
  have R1 := hid hR
  have O1 := hid hO
  have RE := hid hr
  clear hR hO hr
  go_wp2_with fail
  go_loopg [6] n (fun g t wr => ∃ j : Nat, j + g = n ∧ t = .int .i64 j ∧ Rd wr r s j ∧ Only [] w wr)
  case atStart => exact ⟨0, by omega, rfl, R1.out, O1.out⟩
  case round =>
    obtain ⟨j, hj, rfl, hR, hO⟩ := hrel
    have J := hid hj
    have R := hid hR
    have O := hid hO
    have j0 : (0 : Int) ≤ (j : Int) := by omega
    have j1 : (j : Int) ≤ 800000 := by omega
    clear hR hO
    by_cases hg : gk = 0
    · obtain rfl : j = n := by omega
      have m0 : ¬ (j : Int) < (j : Int) := by omega
      clear hj hg
      go_wp2_with fail
      go_ret
      exact ⟨r, rfl, R.out, by rw [RE.out]; exact Nat.le_refl _, O.out⟩
    · have m0 : (j : Int) < (n : Int) := by omega
      have m1 : (j : Int) < 8 * (s.size : Int) := by omega
      obtain ⟨g, rfl⟩ : ∃ g, gk = g + 1 := ⟨gk - 1, by omega⟩
      have B := hid (u_yes r s j 1 wr R.out (by omega) (by have := NL.out; omega))
      clear hj hg
      go_wp2_with fail
      refine B.out.mono ?_
      rintro e w2 ⟨rfl, hR, hO⟩
      have R2 := hid hR
      have O2 := hid (O.out.trans2 hO (fun x hx => by rw [List.mem_singleton.1 hx, RE.out]; exact .inr (Nat.le_refl _)))
      clear hR hO
      go_wp2_with fail
      go_roundg g
      case measure => omega
      case rel => exact ⟨j + 1, by have := J.out; omega, by go_num, R2.out, O2.out⟩

theorem u_int (b : Nat) (s : ByteArray) (pos n : Nat) (N : Int) (hN : N = n) (w : World) (h : Rd w b s pos) (hn : n ≤ 64) (hle : pos + n ≤ 8 * s.size) :
    Calls Tryz.prog 82 #[.pointer (some ⟨b, 0, none⟩), .int .i64 N] w fun e w' => e = .returned (.tuple #[.int .u64 (valOf s pos n), .int .i64 0]) ∧ Rd w' b s (pos + n) ∧ Only [b] w w' := hN ▸ u_yes b s pos n w h hn hle
end Go.Proofs.YtjjjfmnhdnajkaaGreatDoor

end

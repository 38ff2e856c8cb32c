/- The program's through: all fields after Pps, whatever is done with them. -/
/- The three things that are done with fields: they are checked, written, read. -/
/- The program's Check, Refs and Qp. -/
/- The program's Check. -/
/- The program's Put. -/
import Derived.Test.YtjjjfmnhdnajkaaGreatDoorMg17
import Derived.Test.YtjjjfmnhdnajkaaGreatDoorMg16
import Derived.Test.YtjjjfmnhdnajkaaGreatDoorMg2
import Derived.Test.YtjjjfmnhdnajkaaGreatDoorMg14
import Derived.Deep.DeepCutAuto
section
set_option maxRecDepth 20000
namespace Go.Proofs.YtjjjfmnhdnajkaaGreatDoor
open Go.RowKit
set_option linter.unusedVariables false
set_option linter.unusedSimpArgs false

/-- The function of the j-th field. -/
def fldF : Nat → FuncId
  | 0 => 65
  | 1 => 66
  | 2 => 67
  | 3 => 68
  | 4 => 69
  | 5 => 70
  | 6 => 71
  | 7 => 72
  | 8 => 73
  | 9 => 74
  | 10 => 75
  | 11 => 76
  | 12 => 77
  | 13 => 78
  | _ => 79
theorem fldF_cases (j : Nat) : fldF j = 65 ∨ fldF j = 66 ∨ fldF j = 67 ∨ fldF j = 68 ∨ fldF j = 69 ∨ fldF j = 70 ∨ fldF j = 71 ∨ fldF j = 72 ∨ fldF j = 73 ∨ fldF j = 74 ∨ fldF j = 75 ∨ fldF j = 76 ∨ fldF j = 77 ∨ fldF j = 78 ∨ fldF j = 79 := by
  match j with
  | 0 => simp [fldF]
  | 1 => simp [fldF]
  | 2 => simp [fldF]
  | 3 => simp [fldF]
  | 4 => simp [fldF]
  | 5 => simp [fldF]
  | 6 => simp [fldF]
  | 7 => simp [fldF]
  | 8 => simp [fldF]
  | 9 => simp [fldF]
  | 10 => simp [fldF]
  | 11 => simp [fldF]
  | 12 => simp [fldF]
  | 13 => simp [fldF]
  | n + 14 => simp [fldF]
section
variable {σ : Type} {M : Mach σ} {E : Env M} {un : UN} {W0 : World} {S0 : List Nat} {hb n : Nat} {x : HV} {st : σ} {w w' : World}
theorem FPost.mono {r : Int × HV × σ} {e : Ending} (h : FPost E un W0 S0 hb n r e w') : FPost E un W0 S0 hb (n + 1) r e w' := ⟨h.1, h.2.mono⟩
theorem fld_any (hH : HAt E un W0 S0 hb n x st w) (hn : n + 1 ≤ 60) (hG : ∀ m, kindG m ≠ hb) (hs : okS un.s = true) (hp : okP un.p = true) (j : Nat) (hj : j < 15) (ho : stepOk M un j x) :
    Calls Tryz.prog (fldF j) #[.pointer (some ⟨hb, 0, none⟩)] w (FPost E un W0 S0 hb (n + 2) (stepH M un j x st)) := by
  have hn' : n ≤ 60 := by omega
  match j, hj, ho with
  | 0, _, ho => exact (fframe_any hH hn' hG hs hp ho).mono fun _ _ h => h.mono
  | 1, _, ho => exact (fidrID_any hH hn' hG hs hp ho).mono fun _ _ h => h.mono
  | 2, _, ho => exact (fpoc_any hH hn' hG hs hp ho).mono fun _ _ h => h.mono
  | 3, _, ho => exact (fover_any hH hn' hG hs hp ho).mono fun _ _ h => h.mono
  | 4, _, ho => exact (frefs_any hH hn' hG hs hp ho).mono fun _ _ h => h.mono
  | 5, _, ho => exact (flisted_any hH hn' hG hs hp ho).mono fun _ _ h => h.mono
  | 6, _, ho => exact (fmods_any hH hn' hG hs hp ho).mono fun _ _ h => h.mono
  | 7, _, ho => exact fflags_any hH hn hG ho
  | 8, _, ho => exact (fadapted_any hH hn' hG hs hp ho).mono fun _ _ h => h.mono
  | 9, _, ho => exact (fmarks_any hH hn' hG hs hp ho).mono fun _ _ h => h.mono
  | 10, _, ho => exact (finitial_any hH hn' hG hs hp ho).mono fun _ _ h => h.mono
  | 11, _, ho => exact (fqp_any hH hn' hG hs hp ho).mono fun _ _ h => h.mono
  | 12, _, ho => exact (ffilter_any hH hn' hG hs hp ho).mono fun _ _ h => h.mono
  | 13, _, ho => exact (fa_any hH hn' hG hs hp ho).mono fun _ _ h => h.mono
  | 14, _, ho => exact (fb_any hH hn' hG hs hp ho).mono fun _ _ h => h.mono
/-- A head in memory with which nothing is done yet. -/
def HPre (E : Env M) (un : UN) (W0 : World) (S0 : List Nat) (hb n : Nat) (x : HV) (st : σ) (w : World) : Prop :=
  (∃ T mv kv, Blk w hb 73 (hdC x mv kv un .nilFunc .nilFunc) ∧ E.env n st T w ∧ hb ∉ T ∧ Sl w mv x.mods (hb :: T) ∧ Sl w kv x.marks (hb :: T) ∧ HOwn E W0 S0 hb T x mv kv) ∧ Only S0 W0 w
theorem HPre.start (h : HPre E un W0 S0 hb n x st w) (hG : ∀ m, kindG m ≠ hb) (o : Obj) :
    HAt E un W0 S0 hb n x st (((w.alloc o).setCell ⟨hb, 41, none⟩ E.d1).setCell ⟨hb, 42, none⟩ E.d2) := by
  obtain ⟨⟨T, mv, kv, h1, h2, h3, h4, h5, h6⟩, h7⟩ := h
  have o1 := (Only.refl [] w).alloc o
  have b1 := h1.only o1 (by simp)
  have OS : Only [hb] (w.alloc o) (((w.alloc o).setCell ⟨hb, 41, none⟩ E.d1).setCell ⟨hb, 42, none⟩ E.d2) := ((Only.refl _ _).setCell (.inl (by simp)) _).setCell (.inl (by simp)) _
  have e2 := E.keep (E.keep h2 o1 (by simp) (by simp)) OS (fun y hy h => by simp at h; subst h; exact h3 hy) (fun m h => hG m (by simpa using h))
  refine ⟨⟨T, mv, kv, ?_, e2, h3, ?_, ?_, h6⟩, (h7.trans (o1.mono (by simp))).trans2 OS (fun y hy => ?_)⟩
  · exact (b1.set 41 E.d1).set 42 E.d2
  · exact (h4.only o1 (by simp)).only OS (fun y hy => .inl (by simp at hy; simp [hy]))
  · exact (h5.only o1 (by simp)).only OS (fun y hy => .inl (by simp at hy; simp [hy]))
  · simp at hy
    subst hy
    rcases h6.1 y (by simp) with e | e
    · exact .inl e
    · exact .inr (Nat.le_trans h7.size (Nat.le_trans (by have := o1.size; omega) (Nat.le_refl _)) |> fun _ => by omega)

theorem HAt.rebase {A2 w3 : World} (h : HAt E un W0 S0 hb n x st A2) (o : Only [] A2 w3) : ∃ S1, HAt E un w3 S1 hb n x st w3 ∧ (∀ y, y ∈ S1 → y < A2.heap.size) ∧ (∀ y, y ∈ S1 → y ∈ S0 ∨ W0.heap.size ≤ y) ∧ Only S0 W0 w3 ∧ ∀ y, y ∈ E.X → y < W0.heap.size := by
  obtain ⟨⟨T, mv, kv, h1, h2, h3, h4, h5, h6⟩, h7⟩ := h
  refine ⟨hb :: T, ⟨⟨T, mv, kv, h1.only o (by simp), E.keep h2 o (by simp) (by simp), h3, h4.only o (by simp), h5.only o (by simp), fun y hy => .inl hy, h6.2.1, h6.2.2.1, fun y hy => by have := h6.2.2.2 y hy; have := h7.size; have := o.size; omega⟩, Only.refl _ _⟩, fun y hy => ?_, h6.1, h7.trans (o.mono (by simp)), h6.2.2.2⟩
  rcases List.mem_cons.1 hy with e | e
  · subst e; exact h1.lt
  · exact E.lt h2 y e
theorem HAt.unbase {S1 : List Nat} {w3 : World} (h : HAt E un w3 S1 hb n x st w) (h1 : ∀ y, y ∈ S1 → y ∈ S0 ∨ W0.heap.size ≤ y) (o : Only S0 W0 w3) (hX : ∀ y, y ∈ E.X → y < W0.heap.size) : HAt E un W0 S0 hb n x st w := by
  obtain ⟨⟨T, mv, kv, g1, g2, g3, g4, g5, g6⟩, g7⟩ := h
  refine ⟨⟨T, mv, kv, g1, g2, g3, g4, g5, fun y hy => ?_, g6.2.1, g6.2.2.1, hX⟩, o.trans2 g7 h1⟩
  rcases g6.1 y hy with e | e
  · exact h1 y e
  · exact .inr (Nat.le_trans o.size e)
theorem HAt.up (h : HAt E un W0 S0 hb n x st w) (k : Nat) : HAt E un W0 S0 hb (n + k) x st w := by
  induction k with
  | zero => exact h
  | succ k ih => exact ih.mono
theorem thenF_zero {r : Int × HV × σ} {f : HV → σ → Int × HV × σ} (h : r.1 = 0) : thenF r f = f r.2.1 r.2.2 := by unfold thenF; rw [if_neg (fun k => k h)]
theorem thenF_err {r : Int × HV × σ} {f : HV → σ → Int × HV × σ} (h : r.1 ≠ 0) : thenF r f = r := by unfold thenF; rw [if_pos h]
set_option maxRecDepth 100000 in
set_option maxHeartbeats 4000000 in
theorem through_any (hH : HPre E un W0 S0 hb n x st w) (hn : n + 31 ≤ 60) (hG : ∀ m, kindG m ≠ hb) (hs : okS un.s = true) (hp : okP un.p = true) {g1 g2 : Fn} {a1 a2 : Array Value} (h1 : E.d1 = .func g1 a1 #[]) (h2 : E.d2 = .func g2 a2 #[])
    (I : Nat → HV → σ → Prop) (hI : I 0 x st) (hok : ∀ j x st, I j x st → stepOk M un j x ∧ ((stepH M un j x st).1 = 0 → I (j + 1) (stepH M un j x st).2.1 (stepH M un j x st).2.2)) :
    Calls Tryz.prog 31 #[.pointer (some ⟨hb, 0, none⟩), .agg #[E.d1, E.d2]] w (FPost E un W0 S0 hb (n + 30) (runH M un 15 0 x st)) := by
  have hmf : ∀ (fn : Fn) (first cap : Array Value) (w : World), (Instr.makeFunc fn first cap).run Tryz.prog w = .ok (.func fn first cap) w := fun _ _ _ _ => rfl
  have ST := hid (fun o => hH.start hG o)
  obtain ⟨⟨T, mv, kv, b1, _⟩, _⟩ := id hH
  have c41 := fun o => (((Only.refl [] w).alloc o).cell (b1.cell (i := 41) (v := .nilFunc) rfl) (by simp))
  have c42 := fun o => (((Only.refl [] w).alloc o).cell (b1.cell (i := 42) (v := .nilFunc) rfl) (by simp))
  have f41 := fun o => (((Only.refl [] w).alloc o).frozen (p := ⟨hb, 41, none⟩) b1.lt (by simp)).trans (b1.frozen 41)
  have f42 := fun o => (((Only.refl [] w).alloc o).frozen (p := ⟨hb, 42, none⟩) b1.lt (by simp)).trans (b1.frozen 42)
  rw [h1, h2] at *
  have R := hid (And.intro hI hok)
  clear hH b1 hI hok
  go_enter Tryz.func31, Tryz.ntmps31
  go_wp2_with fail
  go_step3
  go_wp2_with fail
  go_step3
  go_wp2_with fail
  obtain ⟨A2, hA2⟩ : ∃ A2, A2 = ((w.alloc (.cells #[.func g1 a1 #[], .func g2 a2 #[]] 71)).setCell ⟨hb, 41, none⟩ (.func g1 a1 #[])).setCell ⟨hb, 42, none⟩ (.func g2 a2 #[]) := ⟨_, rfl⟩
  have HA : HAt E un W0 S0 hb n x st A2 := hA2 ▸ ST.out _
  have hsz : w.heap.size + 1 = A2.heap.size := by rw [hA2]; simp
  rw [← hA2, hsz]
  clear hA2 hsz ST c41 c42 f41 f42
  generalize hw3 : A2.alloc _ = w3
  obtain ⟨S1, HS, hS1, hS2, hO, hX⟩ := HA.rebase (hw3 ▸ (Only.refl [] A2).alloc _)
  have BC : ∀ i, i < 15 → w3.cell? ⟨A2.heap.size, i, none⟩ = some (.func (.func (fldF i)) #[.pointer (some ⟨hb, 0, none⟩)] #[]) := by
    intro i hi
    rw [← hw3, World.cell?_alloc_new]
    match i, hi with
    | 0, _ => rfl
    | 1, _ => rfl
    | 2, _ => rfl
    | 3, _ => rfl
    | 4, _ => rfl
    | 5, _ => rfl
    | 6, _ => rfl
    | 7, _ => rfl
    | 8, _ => rfl
    | 9, _ => rfl
    | 10, _ => rfl
    | 11, _ => rfl
    | 12, _ => rfl
    | 13, _ => rfl
    | 14, _ => rfl
  have HB := hid BC
  have S1' := hid hS1
  have H3 := hid HS
  have U := hid (fun (k : Nat) (x' : HV) (st' : σ) (w' : World) (h : HAt E un w3 S1 hb k x' st' w') => h.unbase hS2 hO hX)
  obtain ⟨r, hr⟩ : ∃ r, r = runH M un 15 0 x st := ⟨_, rfl⟩
  have RR := hid hr
  rw [← hr]
  obtain ⟨r1, r2, r3⟩ := r
  generalize A2.heap.size = B at *
  clear hw3 HA HS BC hS1 hS2 hO hX hr
  go_loopg [4, 45] 15 (fun g t4 t45 wr => ∃ (j : Nat) (x' : HV) (st' : σ), j + g = 15 ∧ t45 = .int .i64 j ∧ t4 = .int .i64 0 ∧ HAt E un w3 S1 hb (n + 2 * j) x' st' wr ∧ I j x' st' ∧ runH M un g j x' st' = (r1, r2, r3))
  case atStart => exact ⟨0, x, st, by omega, rfl, rfl, H3.out, R.out.1, RR.out.symm⟩
  case round =>
    obtain ⟨j, x', st', hj, rfl, rfl, hA, hi, hrun⟩ := hrel
    have HA := hid hA
    have HI := hid hi
    have HR := hid hrun
    clear hA hi hrun
    by_cases hg : gk = 0
    · subst hg
      obtain rfl : j = 15 := by omega
      clear hj
      go_wp2_with fail
      rw [Exit.noGoto_ret]
      go_ret
      have hz := HR.out
      rw [← RR.out, ← hz]
      exact ⟨rfl, U.out _ _ _ _ HA.out⟩
    · obtain ⟨g, rfl⟩ : ∃ g, gk = g + 1 := ⟨gk - 1, by omega⟩
      have J := hid hj
      have m0 : (j : Int) < 15 := by omega
      have bc := HA.out.only.cell (HB.out j (by omega)) (show B ∉ S1 from fun h => by have := S1'.out _ h; omega)
      have FA := hid (fld_any HA.out (by omega) hG hs hp j (by omega) (R.out.2 j x' st' HI.out).1)
      unfold FPost at FA
      obtain ⟨q, hq⟩ : ∃ q, q = stepH M un j x' st' := ⟨_, rfl⟩
      have Q := hid hq
      rw [← hq] at FA
      obtain ⟨q1, q2, q3⟩ := q
      dsimp only at FA
      have hrun := HR.out
      rw [runH, ← hq] at hrun
      replace HR := hid hrun
      clear hj hg hq hrun
      have FC := fldF_cases j
      rcases FC with FC | FC | FC | FC | FC | FC | FC | FC | FC | FC | FC | FC | FC | FC | FC
      all_goals
        rw [FC] at bc FA
        clear FC
        go_wp2_with fail
        refine FA.out.mono ?_
        rintro e w2 ⟨rfl, hP⟩
        have P := hid hP
        clear hP FA bc
        by_cases he : q1 = 0
        · subst he
          go_wp2_with fail
          go_roundg g
          case measure => omega
          case rel =>
            have q0 := Q.out
            have h1 := (R.out.2 j x' st' HI.out).2
            rw [← q0] at h1
            have h2 := HR.out
            rw [thenF_zero rfl] at h2
            exact ⟨j + 1, q2, q3, by have := J.out; omega, by go_num, rfl, P.out, h1 rfl, h2⟩
        · have E0 := hid he
          go_wp2_with fail
          rw [Exit.noGoto_ret]
          go_ret
          have h2 := HR.out
          rw [thenF_err E0.out] at h2
          rw [← RR.out, ← h2]
          refine ⟨rfl, ?_⟩
          have := (U.out _ _ _ _ P.out).up (30 - (2 * j + 2))
          rw [show n + 2 * j + 2 + (30 - (2 * j + 2)) = n + 30 by have := J.out; omega] at this
          exact this
end
end Go.Proofs.YtjjjfmnhdnajkaaGreatDoor

end
section
set_option maxRecDepth 20000
namespace Go.Proofs.YtjjjfmnhdnajkaaGreatDoor
open Go.RowKit
set_option linter.unusedVariables false
set_option linter.unusedSimpArgs false

theorem only_two {k b : Nat} {w w' : World} (h : Only [k, b] w w') : Only (k :: [b]) w w' := h
/-- Checking. -/
def chE : Env chM where
  env _ _ T w := T = [] ∧ Vars w
  d1 := .func (.func 50) #[] #[]
  d2 := .func (.func 51) #[] #[]
  X := []
  keep := fun ⟨h1, h2⟩ o _ hG => ⟨h1, h2.only o hG⟩
  lt := fun ⟨h1, _⟩ x hx => by rw [h1] at hx; cases hx
  glob := fun ⟨h1, h2⟩ m => ⟨by rw [h1]; simp, h2.lt m⟩
  mono := fun h => h
  num := by
    rintro c n st T w hb k i a t v cv K hk _ _ ⟨rfl, hV⟩ hd hB hi hkT hG hC hK
    refine (number_chk hb c k i v cv K w (hB.cell hi) hd hC).mono fun e w' ⟨h1, h2⟩ => ⟨h1, h2.mono (by simp), ?_, [], ⟨rfl, hV.only0 h2⟩, fun x hx => by cases hx⟩
    show Blk w' k t (a.setIfInBounds i (.int .i64 v))
    rw [hB.same hi]
    exact hB.only h2 (by simp)
  lst := by
    rintro m l n st T w hb k i a t sv ho _ ⟨rfl, hV⟩ hd hB hi hs hkT hG
    have key : Calls Tryz.prog 115 #[.pointer (some ⟨hb, 0, none⟩), .bool true, .pointer (some ⟨k, i, none⟩), cmsV m] w fun e w' => e = .returned (.int .i64 (checkI m l)) ∧ Only [] w w' := by
      cases m
      · exact list_chk_m hb k i l sv w hV (hB.cell hi) hs.h ho hd
      · exact list_chk_k hb k i l sv w hV (hB.cell hi) hs.h ho hd
    refine key.mono fun e w' ⟨h1, h2⟩ => ⟨h1, h2.mono (by simp), sv, [], ?_, hs.only h2 (by simp), ⟨rfl, hV.only0 h2⟩, fun x hx => (by cases hx), .inl ⟨hi, rfl⟩⟩
    rw [hB.same hi]
    exact hB.only h2 (by simp)
theorem cdBits_le {c : Cd} {v : Int} (hk : cdOk c) (hv : numC c v = 0) : (cdBits c v).length ≤ 100 := by
  have h' := numC_iff.1 hv
  cases c with
  | u n => obtain ⟨k1, k2⟩ := hk; simp only [cdBits, length_bitsOf]; omega
  | ue a b =>
    obtain ⟨k1, k2, k3, k4⟩ := hk
    simp only [Cd.lo, Cd.hi] at h'
    have := ueBits_le (v - a).toNat (by omega)
    simp only [cdBits]; omega
  | se a b =>
    obtain ⟨k1, k2, k3⟩ := hk
    simp only [Cd.lo, Cd.hi] at h'
    have := ueBits_le (seNum v) (by have := seNum_le (v := v) (by omega) (by omega); omega)
    simp only [cdBits]; omega
theorem listB_le {m : Bool} {l : List (Int × Int × Int)} (h : checkI m l = 0) : (listB m l).length ≤ 13000 := by
  unfold checkI at h
  by_cases hl : 66 < l.length
  · rw [if_pos hl] at h; exact absurd h (by decide)
  · rw [if_neg hl] at h
    have h1 := modsB_le (m := m) (l := l) (firstE_at h)
    have h2 := ueBits_le (endN m) (by unfold endN; split <;> omega)
    unfold listB
    rw [List.length_append]
    omega
/-- Writing, to the writer at block b. -/
def ptE (b : Nat) : Env ptM where
  env n L T w := ∃ sv, T = b :: ownOf sv ∧ Wr w b sv L ∧ L.length ≤ 100000 + 13000 * n ∧ Vars w ∧ (∀ m, kindG m ∉ T)
  d1 := .func (.func 32) #[.agg #[.pointer (some ⟨b, 0, none⟩)]] #[]
  d2 := .func (.func 33) #[.agg #[.pointer (some ⟨b, 0, none⟩)]] #[]
  X := []
  keep := by
    rintro n L T S w w' ⟨sv, rfl, h1, h2, h3, h4⟩ o hT hG
    exact ⟨sv, rfl, h1.only o (hT b (by simp)) (fun g hg => hT g (List.mem_cons_of_mem _ hg)), h2, h3.only o hG, h4⟩
  lt := by
    rintro n L T w ⟨sv, rfl, h1, h2, h3, h4⟩ x hx
    rcases List.mem_cons.1 hx with e | e
    · rw [e]; exact h1.lt
    · exact h1.row.lt x e
  glob := fun ⟨sv, h0, h1, h2, h3, h4⟩ m => ⟨h4 m, h3.lt m⟩
  mono := fun ⟨sv, h0, h1, h2, h3, h4⟩ => ⟨sv, h0, h1, by omega, h3, h4⟩
  num := by
    rintro c n L T w hb k i a t v cv K hk hv hn ⟨sv, rfl, h1, h2, h3, h4⟩ hd hB hi hkT hG hC hK
    refine (number_put hb c k i v cv K w b hk hv sv L h1 (hB.cell hi) (by omega) hd hC).mono fun e w' ⟨he, sv', hP⟩ => ?_
    have hT' : ∀ x, x ∈ b :: ownOf sv' → x ∈ b :: ownOf sv ∨ w.heap.size ≤ x := by
      intro x hx
      rcases List.mem_cons.1 hx with e | e
      · exact .inl (by simp [e])
      · exact (hP.own x e).imp (List.mem_cons_of_mem _) id
    refine ⟨he, hP.only.mono (fun x _ hx => List.mem_cons_of_mem _ hx), ?_, b :: ownOf sv', ⟨sv', rfl, hP.wr, ?_, h3.only hP.only h4, fun m hm => ?_⟩, hT'⟩
    · show Blk w' k t (a.setIfInBounds i (.int .i64 v))
      rw [hB.same hi]
      exact hB.only hP.only hkT
    · have := cdBits_le hk hv
      show (L ++ cdBits c v).length ≤ _
      rw [List.length_append]
      omega
    · rcases hT' _ hm with e | e
      · exact h4 m e
      · have := h3.lt m; omega
  lst := by
    rintro m l n L T w hb k i a t lv ⟨hv, ho⟩ hn ⟨sv, rfl, h1, h2, h3, h4⟩ hd hB hi hs hkT hG
    have ha : Aside lv l b sv := fun ad n c e hl => ⟨fun h => hs.d ad n c e hl (by simp [h]), fun h => hs.d ad n c e hl (by simp [h])⟩
    have key : Calls Tryz.prog 115 #[.pointer (some ⟨hb, 0, none⟩), .bool true, .pointer (some ⟨k, i, none⟩), cmsV m] w fun e w' => e = .returned (.int .i64 0) ∧ ∃ sv', PutLeft w w' b sv sv' (L ++ listB m l) := by
      cases m
      · exact list_put_m hb k i l lv w b sv L h3 h1 (hB.cell hi) hs.h ho ha hv (by omega) hd
      · exact list_put_k hb k i l lv w b sv L h3 h1 (hB.cell hi) hs.h ho ha hv (by omega) hd
    refine key.mono fun e w' ⟨he, sv', hP⟩ => ?_
    have hT' : ∀ x, x ∈ b :: ownOf sv' → x ∈ b :: ownOf sv ∨ w.heap.size ≤ x := by
      intro x hx
      rcases List.mem_cons.1 hx with e | e
      · exact .inl (by simp [e])
      · exact (hP.own x e).imp (List.mem_cons_of_mem _) id
    refine ⟨he, hP.only.mono (fun x _ hx => List.mem_cons_of_mem _ hx), lv, b :: ownOf sv', ?_, ?_, ⟨sv', rfl, hP.wr, ?_, h3.only hP.only h4, fun m hm => ?_⟩, hT', .inl ⟨hi, rfl⟩⟩
    · rw [hB.same hi]
      exact hB.only hP.only hkT
    · refine hs.step hP.only (fun x hx => .inl (List.mem_cons_of_mem _ hx)) (fun x hx => ?_)
      rcases List.mem_cons.1 hx with e | e
      · exact .inl (by simp [e])
      · exact (hT' x e).imp (List.mem_cons_of_mem _) id
    · have := listB_le hv
      show (L ++ listB m l).length ≤ _
      rw [List.length_append]
      omega
    · rcases hT' _ hm with e | e
      · exact h4 m e
      · have := h3.lt m; omega
/-- Reading, from the reader at block b. -/
def rdE (b : Nat) (s : ByteArray) (X : List Nat) : Env (rdM s) where
  env _ q T w := T = [b] ∧ Rd w b s q ∧ Vars w
  d1 := .func (.func 98) #[.agg #[.pointer (some ⟨b, 0, none⟩)]] #[]
  d2 := .func (.func 99) #[.agg #[.pointer (some ⟨b, 0, none⟩)]] #[]
  X := X
  keep := by
    rintro n q T S w w' ⟨rfl, h1, h2⟩ o hT hG
    exact ⟨rfl, h1.only o (hT b (by simp)), h2.only o hG⟩
  lt := by
    rintro n q T w ⟨rfl, h1, h2⟩ x hx
    obtain rfl := List.mem_singleton.1 hx
    exact h1.lt
  glob := by
    rintro n q T w ⟨rfl, h1, h2⟩ m
    exact ⟨by simpa using h2.not_rd h1 m, h2.lt m⟩
  mono := fun h => h
  num := by
    rintro c n q T w hb k i a t v cv K hk _ hn ⟨rfl, h1, h2⟩ hd hB hi hkT hG hC hK
    refine (number_rd hb c k i v cv K w b hk (by simpa using hK) s q h1 t a hB hi (by simpa using hkT) hd hC).mono fun e w' ⟨g1, g2, g3, g4⟩ => ⟨g1, g2, g4, [b], ⟨rfl, g3, h2.only g2 (fun m hm => ?_)⟩, fun x hx => .inl hx⟩
    rcases List.mem_cons.1 hm with e | e
    · exact hG m e
    · exact h2.not_rd h1 m (by simpa using e)
  lst := by
    rintro m l n q T w hb k i a t lv _ hn ⟨rfl, h1, h2⟩ hd hB hi hs hkT hG
    have key : Calls Tryz.prog 115 #[.pointer (some ⟨hb, 0, none⟩), .bool true, .pointer (some ⟨k, i, none⟩), cmsV m] w
        fun e w' => e = .returned (.int .i64 (readI m s q).2.1) ∧ Only [k, b] w w' ∧ Rd w' b s (readI m s q).2.2 ∧ ∃ sv, Blk w' k t (a.setIfInBounds i sv) ∧ HoldsM w' sv (readI m s q).1 ∧ FreshM w sv (readI m s q).1 := by
      cases m
      · exact list_rd_m hb k i l lv w b s q h2 h1 t a hB hi (by simpa using hkT) hd
      · exact list_rd_k hb k i l lv w b s q h2 h1 t a hB hi (by simpa using hkT) hd
    refine key.mono fun e w' ⟨g1, g2, g3, sv, g4, g5, g6⟩ => ⟨g1, g2, sv, [b], g4, ⟨g5, fun ad n c e hl hm => ?_⟩, ⟨rfl, g3, h2.only g2 (fun m hm => ?_)⟩, fun x hx => .inl hx, .inr g6⟩
    · have h3 := g6 ad n c e hl
      rcases List.mem_cons.1 hm with e | e
      · have := hB.lt; omega
      · have := h1.lt
        have e' : ad.block = b := by simpa using e
        omega
    · rcases List.mem_cons.1 hm with e | e
      · exact hG m e
      · exact h2.not_rd h1 m (by simpa using e)
end Go.Proofs.YtjjjfmnhdnajkaaGreatDoor

end
section
set_option maxRecDepth 20000
namespace Go.Proofs.YtjjjfmnhdnajkaaGreatDoor
open Go.RowKit
set_option linter.unusedVariables false
set_option linter.unusedSimpArgs false

set_option maxRecDepth 100000 in
set_option maxHeartbeats 4000000 in
theorem checkfirst_any {un : UN} {x : HV} {mv kv d1 d2 : Value} {w : World} {hb : Nat} (hB : Blk w hb 73 (hdC x mv kv un d1 d2)) (hs : okS un.s = true) :
    Calls Tryz.prog 104 #[.pointer (some ⟨hb, 0, none⟩)] w fun e w' => e = .returned (.int .i64 (numC (firstC un) x.fi)) ∧ Only [] w w' := by
  have hz := okS_size hs
  have k39 := hB.cell (i := 39) (v := .int .i64 un.s.wd) rfl
  have k40 := hB.cell (i := 40) (v := .int .i64 un.s.ht) rfl
  have k0 := hB.cell (i := 0) (v := .int .i64 x.fi) rfl
  have CM := hid (fun w => ueC_any 0 (un.s.wd * un.s.ht - 1) w)
  have NC : ∀ w1 cv K, Only [] w w1 → CdAt w1 cv K (firstC un) → Calls Tryz.prog 50 #[.pointer (some ⟨hb, 0, none⟩), cv] w1 fun e w' => e = .returned (.int .i64 (numC (firstC un) x.fi)) ∧ Only [] w w' := by
    intro w1 cv K o hC
    obtain ⟨g1, g2, c1, c2, rfl⟩ := hC.form
    exact (checknum_any hb 0 x.fi (firstC un) g1 g2 c1 c2 w1 (o.cell k0 (by simp))).mono fun e w' ⟨a, b⟩ => ⟨a, o.trans b⟩
  have NC := hid NC
  obtain ⟨P, hP⟩ : ∃ P, P = un.s.wd * un.s.ht := ⟨_, rfl⟩
  have s1 : IntKind.i64.wrap (un.s.wd * un.s.ht) = P := by rw [hP]; exact IntWalk.i64_in _ ⟨by omega, by omega⟩
  have s2 : IntKind.i64.wrap (P - 1) = P - 1 := IntWalk.i64_in _ ⟨by omega, by omega⟩
  unfold firstC at NC ⊢
  rw [← hP] at NC CM ⊢
  generalize numC (Cd.ue 0 (P - 1)) x.fi = r at *
  generalize un.s.wd = wd at *
  generalize un.s.ht = ht at *
  clear hB hs hz hP k0
  go_enter Tryz.func104, Tryz.ntmps104
  go_wp2_with fail
  go_region_with (first | (go_at_call 113; refine (CM.out _).mono ?_; rintro e w2 ⟨cv, K, rfl, hC, hK, hO⟩; have O2 := hid (show Only [] w w2 from Only.trans (by first | exact (Only.refl [] _).drewN _ | exact (Only.refl [] _).drew | exact Only.refl [] _) hO)) | (go_at_call 50; refine (NC.out _ _ _ O2.out hC).mono ?_; rintro e w3 ⟨rfl, hP⟩))
  all_goals
    go_wp2_with fail
    go_ret
    exact ⟨rfl, hP⟩
set_option maxRecDepth 100000 in
set_option maxHeartbeats 4000000 in
theorem checkbegin_any {un : UN} {x : HV} {mv kv d1 d2 : Value} {w : World} {hb : Nat} (hB : Blk w hb 73 (hdC x mv kv un d1 d2)) (hs : okS un.s = true) :
    Calls Tryz.prog 49 #[.pointer (some ⟨hb, 0, none⟩)] w fun e w' => e = .returned (.int .i64 (beginE un x)) ∧ Only [] w w' := by
  have CF := hid (checkfirst_any hB hs)
  have HB := hid hB
  have k21 := hid (fun w' (o : Only [] w w') => o.cell (hB.cell (i := 21) (v := .bool un.idr) rfl) (by simp))
  have k1 := hid (fun w' (o : Only [] w w') => o.cell (hB.cell (i := 1) (v := .bool x.intra) rfl) (by simp))
  have k3 := hid (fun w' (o : Only [] w w') => o.cell (hB.cell (i := 3) (v := .int .i64 x.pps) rfl) (by simp))
  have k22 := hid (fun w' (o : Only [] w w') => o.cell (hB.cell (i := 22) (v := .int .i64 un.p.id) rfl) (by simp))
  have R3 : numC (firstC un) x.fi = 0 ∨ numC (firstC un) x.fi = 3 := by
    unfold numC; split <;> simp
  unfold beginE
  generalize numC (firstC un) x.fi = r at *
  generalize un.p.id = pid at *
  generalize x.pps = xp at *
  clear hB hs
  rcases R3 with rfl | rfl
  · rw [if_neg (by simp)]
    obtain ⟨i, hi⟩ : ∃ i, i = un.idr := ⟨_, rfl⟩
    obtain ⟨j, hj⟩ : ∃ j, j = x.intra := ⟨_, rfl⟩
    rw [← hi] at k21 ⊢
    rw [← hj] at k1 ⊢
    clear hi hj
    cases i <;> cases j <;> by_cases hp : xp = pid
    all_goals
      simp only [hp, Bool.false_eq_true, Bool.true_eq_false, and_true, and_false, false_and, true_and, and_self, if_true, if_false, ne_eq, not_true_eq_false, not_false_eq_true]
      first | (subst hp; have he : (xp != xp) = false := by simp) | (have he : (xp != pid) = true := by simpa using hp)
      (try clear hp)
      go_enter Tryz.func49, Tryz.ntmps49
      go_wp2_with fail
      refine CF.out.mono ?_
      rintro e w1 ⟨rfl, hO⟩
      have c21 := k21.out _ hO
      have c1 := k1.out _ hO
      have c3 := k3.out _ hO
      have c22 := k22.out _ hO
      have O1 := hid hO
      clear hO CF
      go_wp2_with fail
      first
        | (go_ret; exact ⟨rfl, O1.out⟩)
        | (go_quiet (fail)
           go_wp2_with fail
           go_ret
           exact ⟨rfl, O1.out.drewN _⟩)
  · rw [if_pos (by simp)]
    go_enter Tryz.func49, Tryz.ntmps49
    go_wp2_with fail
    refine CF.out.mono ?_
    rintro e w1 ⟨rfl, hO⟩
    clear CF
    go_wp2_with fail
    go_ret
    exact ⟨rfl, hO⟩
set_option maxHeartbeats 1000000 in
theorem refs_any (x : HV) (mv kv : Value) (p : PV) (w : World) {a1 a2 : Option Addr} {n1 n2 c1 c2 : Nat} (h1 : mv = .slice a1 n1 c1) (h2 : kv = .slice a2 n2 c2) :
    Calls Tryz.prog 22 #[hV x mv kv, pV p] w fun e w' => e = .returned (.int .i64 (if x.intra = true then 0 else if x.over = true then x.refs else p.rf)) ∧ Only [] w w' := by
  subst h1 h2
  obtain ⟨fi, intra, whole, pps, fr, idr, poc, over, refs, listed, mods, f0, f1, ad, marks, ini, qp, fil, a, b⟩ := x
  simp only [hV, hC]
  cases intra <;> cases over
  all_goals
    go_enter Tryz.func22, Tryz.ntmps22
    go_wp2_with fail
    go_ret
    exact ⟨rfl, by first | exact ((Only.refl [] w).alloc _).alloc _ | exact (Only.refl [] w).alloc _⟩
set_option maxHeartbeats 1000000 in
theorem qp_any (x : HV) (mv kv : Value) (p : PV) (w : World) {a1 a2 : Option Addr} {n1 n2 c1 c2 : Nat} (h1 : mv = .slice a1 n1 c1) (h2 : kv = .slice a2 n2 c2) :
    Calls Tryz.prog 24 #[hV x mv kv, pV p] w fun e w' => e = .returned (.int .i64 (wrap64 (wrap64 (26 + p.qp) + x.qp))) ∧ Only [] w w' := by
  subst h1 h2
  simp only [hV, hC]
  go_enter Tryz.func24, Tryz.ntmps24
  go_wp2_with fail
  first
    | (go_ret; exact ⟨rfl, by first | exact ((Only.refl [] w).alloc _).alloc _ | exact (Only.refl [] w).alloc _⟩)
    | (go_quiet (fail)
       go_wp2_with fail
       go_ret
       exact ⟨rfl, (((Only.refl [] w).alloc _).alloc _).drewN _⟩)
end Go.Proofs.YtjjjfmnhdnajkaaGreatDoor

end
section
set_option maxRecDepth 20000
namespace Go.Proofs.YtjjjfmnhdnajkaaGreatDoor
open Go.RowKit
set_option linter.unusedVariables false
set_option linter.unusedSimpArgs false

set_option maxRecDepth 100000 in
set_option maxHeartbeats 8000000 in
theorem hcheck_any (x : HV) (un : UN) (mv kv : Value) (w : World) (hVr : Vars w) (h1 : HoldsM w mv x.mods) (h2 : HoldsM w kv x.marks) (o1 : OksM x.mods) (o2 : OksM x.marks) (r0 : 0 ≤ un.ref) :
    Calls Tryz.prog 20 #[hV x mv kv, .int .u8 un.ref, .bool un.idr, pV un.p, sV un.s] w fun e w' => e = .returned (.int .i64 (checkH un x)) ∧ Only [] w w' := by
  obtain ⟨ma, mc, hmv, _⟩ := id h1
  obtain ⟨ka, kc, hkv, _⟩ := id h2
  have IU := hid (fun w => isunit_any un.ref un.idr r0 w)
  have C6 := hid (fun w => check6_any un.s w)
  have C7 := hid (fun w => check7_any un.p w)
  unfold chS at C6
  unfold chP at C7
  have O1 := hid ((((Only.refl [] w).alloc (.cells (hC x mv kv).toArray 34)).alloc (.cells (pL un.p).toArray 24)).alloc (.cells (sL un.s).toArray 27))
  obtain ⟨W1, hW1⟩ : ∃ W1, W1 = ((w.alloc (.cells (hC x mv kv).toArray 34)).alloc (.cells (pL un.p).toArray 24)).alloc (.cells (sL un.s).toArray 27) := ⟨_, rfl⟩
  have e0 : isU un = (decide (un.ref ≤ 3) && (decide (0 < un.ref) || !un.idr)) := rfl
  rw [← e0] at IU
  have UE : ∀ k, k ≠ 0 → unE un = k → checkH un x = k := fun k hk h => by unfold checkH; rw [h, if_pos hk]
  rcases unE_cases un with ⟨k1, k0⟩ | ⟨k1, k2, k0⟩ | ⟨k1, k2, k3, k0⟩ | ⟨k1, k2, k3, k4, k0⟩ | ⟨k1, k2, k3, k4, k0⟩
  · rw [UE 2 (by decide) k0]
    rw [k1] at IU
    subst hmv hkv
    clear UE k0 k1 e0 h1 h2 C6 C7 hW1
    simp only [hV, hC]
    go_enter Tryz.func20, Tryz.ntmps20
    go_wp2_with fail
    refine (IU.out _).mono ?_
    rintro e w2 ⟨rfl, rfl⟩
    go_wp2_with fail
    go_ret
    exact ⟨rfl, O1.out⟩
  · rw [UE 3 (by decide) k0]
    rw [k1] at IU
    rw [if_neg (by rw [k2]; decide)] at C6
    subst hmv hkv
    have BX := hid (fun w' (o : Only [] W1 w') => (show Blk W1 w.heap.size 34 _ from hW1 ▸ ((Blk.new w _ _).only (((Only.refl [] _).alloc _).alloc _) (by simp))).only o (by simp))
    have BP := hid (fun w' (o : Only [] W1 w') => (show Blk W1 (w.heap.size + 1) 24 (pL un.p).toArray from by
      have := (Blk.new (w.alloc (.cells (hC x (.slice ma x.mods.length mc) (.slice ka x.marks.length kc)).toArray 34)) 24 (pL un.p).toArray).only ((Only.refl [] _).alloc (.cells (sL un.s).toArray 27)) (by simp)
      rw [World.size_alloc] at this
      exact hW1 ▸ this).only o (by simp))
    have BS := hid (fun w' (o : Only [] W1 w') => (show Blk W1 (w.heap.size + 1 + 1) 27 (sL un.s).toArray from by
      have := Blk.new ((w.alloc (.cells (hC x (.slice ma x.mods.length mc) (.slice ka x.marks.length kc)).toArray 34)).alloc (.cells (pL un.p).toArray 24)) 27 (sL un.s).toArray
      rw [World.size_alloc, World.size_alloc] at this
      exact hW1 ▸ this).only o (by simp))
    rw [← hW1] at O1
    clear UE k0 k1 k2 e0 h1 h2 C7
    simp only [hV, hC] at hW1 ⊢
    simp only [pL, sL] at hW1
    go_enter Tryz.func20, Tryz.ntmps20
    go_wp2_with fail
    rw [← hW1]
    clear hW1
    refine (IU.out _).mono ?_
    rintro e w2 ⟨rfl, rfl⟩
    have OO := hid (Only.refl [] W1)
    go_wp2_with (refine load_blk rfl 27 _ rfl _ _ (sL un.s) rfl (BS.out _ OO.out) (hl_sps _ _) ?_)
    refine (C6.out _).mono ?_
    rintro e w3 ⟨rfl, h3⟩
    go_wp2_with fail
    go_ret
    exact ⟨rfl, O1.out.trans h3⟩
  · rw [UE 3 (by decide) k0]
    rw [k1] at IU
    rw [if_pos k2] at C6
    rw [if_neg (by rw [k3]; decide)] at C7
    subst hmv hkv
    have BX := hid (fun w' (o : Only [] W1 w') => (show Blk W1 w.heap.size 34 _ from hW1 ▸ ((Blk.new w _ _).only (((Only.refl [] _).alloc _).alloc _) (by simp))).only o (by simp))
    have BP := hid (fun w' (o : Only [] W1 w') => (show Blk W1 (w.heap.size + 1) 24 (pL un.p).toArray from by
      have := (Blk.new (w.alloc (.cells (hC x (.slice ma x.mods.length mc) (.slice ka x.marks.length kc)).toArray 34)) 24 (pL un.p).toArray).only ((Only.refl [] _).alloc (.cells (sL un.s).toArray 27)) (by simp)
      rw [World.size_alloc] at this
      exact hW1 ▸ this).only o (by simp))
    have BS := hid (fun w' (o : Only [] W1 w') => (show Blk W1 (w.heap.size + 1 + 1) 27 (sL un.s).toArray from by
      have := Blk.new ((w.alloc (.cells (hC x (.slice ma x.mods.length mc) (.slice ka x.marks.length kc)).toArray 34)).alloc (.cells (pL un.p).toArray 24)) 27 (sL un.s).toArray
      rw [World.size_alloc, World.size_alloc] at this
      exact hW1 ▸ this).only o (by simp))
    rw [← hW1] at O1
    clear UE k0 k1 k2 k3 e0 h1 h2
    simp only [hV, hC] at hW1 ⊢
    simp only [pL, sL] at hW1
    go_enter Tryz.func20, Tryz.ntmps20
    go_wp2_with fail
    rw [← hW1]
    clear hW1
    refine (IU.out _).mono ?_
    rintro e w2 ⟨rfl, rfl⟩
    have OO := hid (Only.refl [] W1)
    go_wp2_with (refine load_blk rfl 27 _ rfl _ _ (sL un.s) rfl (BS.out _ OO.out) (hl_sps _ _) ?_)
    refine (C6.out _).mono ?_
    rintro e w3 ⟨rfl, h3⟩
    clear OO
    have OO := hid h3
    go_wp2_with (refine load_blk rfl 24 _ rfl _ _ (pL un.p) rfl (BP.out _ OO.out) (hl_pps _ _) ?_)
    refine (C7.out _).mono ?_
    rintro e w4 ⟨rfl, h4⟩
    go_wp2_with fail
    go_ret
    exact ⟨rfl, O1.out.trans (h3.trans h4)⟩
  · rw [UE 2 (by decide) k0]
    rw [k1] at IU
    rw [if_pos k2] at C6
    rw [if_pos k3] at C7
    subst hmv hkv
    have BX := hid (fun w' (o : Only [] W1 w') => (show Blk W1 w.heap.size 34 _ from hW1 ▸ ((Blk.new w _ _).only (((Only.refl [] _).alloc _).alloc _) (by simp))).only o (by simp))
    have BP := hid (fun w' (o : Only [] W1 w') => (show Blk W1 (w.heap.size + 1) 24 (pL un.p).toArray from by
      have := (Blk.new (w.alloc (.cells (hC x (.slice ma x.mods.length mc) (.slice ka x.marks.length kc)).toArray 34)) 24 (pL un.p).toArray).only ((Only.refl [] _).alloc (.cells (sL un.s).toArray 27)) (by simp)
      rw [World.size_alloc] at this
      exact hW1 ▸ this).only o (by simp))
    have BS := hid (fun w' (o : Only [] W1 w') => (show Blk W1 (w.heap.size + 1 + 1) 27 (sL un.s).toArray from by
      have := Blk.new ((w.alloc (.cells (hC x (.slice ma x.mods.length mc) (.slice ka x.marks.length kc)).toArray 34)).alloc (.cells (pL un.p).toArray 24)) 27 (sL un.s).toArray
      rw [World.size_alloc, World.size_alloc] at this
      exact hW1 ▸ this).only o (by simp))
    rw [← hW1] at O1
    have k4' : (un.p.sps != un.s.id) = true := by simpa using k4
    clear UE k0 k1 k2 k3 k4 e0 h1 h2
    simp only [hV, hC] at hW1 ⊢
    simp only [pL, sL] at hW1
    go_enter Tryz.func20, Tryz.ntmps20
    go_wp2_with fail
    rw [← hW1]
    clear hW1
    refine (IU.out _).mono ?_
    rintro e w2 ⟨rfl, rfl⟩
    have OO := hid (Only.refl [] W1)
    go_wp2_with (refine load_blk rfl 27 _ rfl _ _ (sL un.s) rfl (BS.out _ OO.out) (hl_sps _ _) ?_)
    refine (C6.out _).mono ?_
    rintro e w3 ⟨rfl, h3⟩
    clear OO
    have OO := hid h3
    go_wp2_with (refine load_blk rfl 24 _ rfl _ _ (pL un.p) rfl (BP.out _ OO.out) (hl_pps _ _) ?_)
    refine (C7.out _).mono ?_
    rintro e w4 ⟨rfl, h4⟩
    clear OO
    have OO := hid (h3.trans h4)
    clear h3 h4 C6 C7 IU
    have p1 := (BP.out _ OO.out).cell (i := 1) (v := .int .i64 un.p.sps) rfl
    have s3 := (BS.out _ OO.out).cell (i := 3) (v := .int .i64 un.s.id) rfl
    go_wp2_with fail
    go_ret
    exact ⟨rfl, O1.out.trans OO.out⟩
  · rw [k1] at IU
    rw [if_pos k2] at C6
    rw [if_pos k3] at C7
    have CE : checkH un x = if beginE un x ≠ 0 then beginE un x else restE un x 15 0 := by unfold checkH; rw [if_neg (fun k => k k0)]
    have CEE := hid CE
    obtain ⟨R, hR⟩ : ∃ R, R = checkH un x := ⟨_, rfl⟩
    rw [← hR]
    rw [← hR] at CEE
    clear hR
    have H1 := hid h1
    have H2 := hid h2
    have VV := hid hVr
    have K23 := hid (And.intro k2 k3)
    have CHO := hid (fun j => chk_ok un x j o1 o2)
    subst hmv hkv
    have BX := hid (fun w' (o : Only [] W1 w') => (show Blk W1 w.heap.size 34 _ from hW1 ▸ ((Blk.new w _ _).only (((Only.refl [] _).alloc _).alloc _) (by simp))).only o (by simp))
    have BP := hid (fun w' (o : Only [] W1 w') => (show Blk W1 (w.heap.size + 1) 24 (pL un.p).toArray from by
      have := (Blk.new (w.alloc (.cells (hC x (.slice ma x.mods.length mc) (.slice ka x.marks.length kc)).toArray 34)) 24 (pL un.p).toArray).only ((Only.refl [] _).alloc (.cells (sL un.s).toArray 27)) (by simp)
      rw [World.size_alloc] at this
      exact hW1 ▸ this).only o (by simp))
    have BS := hid (fun w' (o : Only [] W1 w') => (show Blk W1 (w.heap.size + 1 + 1) 27 (sL un.s).toArray from by
      have := Blk.new ((w.alloc (.cells (hC x (.slice ma x.mods.length mc) (.slice ka x.marks.length kc)).toArray 34)).alloc (.cells (pL un.p).toArray 24)) 27 (sL un.s).toArray
      rw [World.size_alloc, World.size_alloc] at this
      exact hW1 ▸ this).only o (by simp))
    rw [← hW1] at O1
    have k4' : (un.p.sps != un.s.id) = false := by simp [k4]
    clear UE k0 k1 k4 e0 h1 h2 CE k2 k3 hVr
    simp only [hV, hC] at hW1 ⊢
    simp only [pL, sL] at hW1
    go_enter Tryz.func20, Tryz.ntmps20
    go_wp2_with fail
    rw [← hW1]
    clear hW1
    refine (IU.out _).mono ?_
    rintro e w2 ⟨rfl, rfl⟩
    have OO := hid (Only.refl [] W1)
    go_wp2_with (refine load_blk rfl 27 _ rfl _ _ (sL un.s) rfl (BS.out _ OO.out) (hl_sps _ _) ?_)
    refine (C6.out _).mono ?_
    rintro e w3 ⟨rfl, h3⟩
    clear OO
    have OO := hid h3
    go_wp2_with (refine load_blk rfl 24 _ rfl _ _ (pL un.p) rfl (BP.out _ OO.out) (hl_pps _ _) ?_)
    refine (C7.out _).mono ?_
    rintro e w4 ⟨rfl, h4⟩
    clear OO
    have OO := hid (h3.trans h4)
    clear h3 h4 C6 C7 IU
    have p1 := (BP.out _ OO.out).cell (i := 1) (v := .int .i64 un.p.sps) rfl
    have s3 := (BS.out _ OO.out).cell (i := 3) (v := .int .i64 un.s.id) rfl
    go_wp2_with (first | (refine load_blk rfl 34 _ rfl _ _ (hC x (.slice ma x.mods.length mc) (.slice ka x.marks.length kc)) rfl (BX.out _ OO.out) (hl_hdr _ _ _ _) ?_; simp only [hC]) | (refine load_blk rfl 24 _ rfl _ _ (pL un.p) rfl (BP.out _ OO.out) (hl_pps _ _) ?_; simp only [pL]) | (refine load_blk rfl 27 _ rfl _ _ (sL un.s) rfl (BS.out _ OO.out) (hl_sps _ _) ?_; simp only [sL]))
    generalize hW5 : w4.alloc _ = W5
    have HB5 : Blk W5 w4.heap.size 73 (hdC x (.slice ma x.mods.length mc) (.slice ka x.marks.length kc) un .nilFunc .nilFunc) := hW5 ▸ Blk.new w4 _ _
    have O5 := hid ((O1.out.trans OO.out).trans (show Only [] w4 W5 from hW5 ▸ (Only.refl [] w4).alloc _))
    have L4 := hid (Nat.le_trans O1.out.size OO.out.size)
    have CB := hid (checkbegin_any HB5 K23.out.1)
    have H5 := hid HB5
    clear hW5 HB5 p1 s3 k4' BX BP BS OO O1
    generalize w4.heap.size = hb at *
    obtain ⟨z, hz⟩ : ∃ z, z = beginE un x := ⟨_, rfl⟩
    rw [← hz] at CB CEE
    clear hz
    refine CB.out.mono ?_
    rintro e w6 ⟨rfl, h6⟩
    have O6 := hid (O5.out.trans h6)
    have B6 := hid (H5.out.only h6 (by simp))
    clear h6 H5 CB O5
    by_cases hz : z = 0
    · subst hz
      have TH : Calls Tryz.prog 31 #[.pointer (some ⟨hb, 0, none⟩), .agg #[.func (.func 50) #[] #[], .func (.func 51) #[] #[]]] w6 (fun e w' => e = .returned (.int .i64 (restE un x 15 0)) ∧ Only [hb] w6 w') := by
        refine (through_any (E := chE) (un := un) (W0 := w6) (S0 := [hb]) (n := 0) (x := x) (st := ()) ⟨⟨[], _, _, B6.out, ⟨rfl, VV.out.only0 O6.out⟩, by simp, ⟨H1.out.only0 O6.out, fun ad n c e hl => ?_⟩, ⟨H2.out.only0 O6.out, fun ad n c e hl => ?_⟩, fun y hy => .inl hy, (fun _ _ _ _ _ h => by cases h), (fun _ _ _ _ _ h => by cases h), (fun _ h => by cases h)⟩, Only.refl _ _⟩ (by omega) (fun m => by have := VV.out.lt m; have := L4.out; omega) K23.out.1 K23.out.2 rfl rfl
          (fun _ x' _ => x' = x) rfl (fun j x' st' h => ?_)).mono fun e w' ⟨ha, hb'⟩ => ⟨?_, hb'.only⟩
        · have h9 := H1.out
          rw [e] at h9
          have := h9.lt hl
          have := L4.out
          simp; omega
        · have h9 := H2.out
          rw [e] at h9
          have := h9.lt hl
          have := L4.out
          simp; omega
        · subst h
          cases st'
          rw [chk_step]
          exact ⟨CHO.out j, fun _ => rfl⟩
        · rw [ha, chk_run]
      replace TH := hid TH
      go_wp2_with fail
      refine TH.out.mono ?_
      rintro e w7 ⟨rfl, h7⟩
      go_wp2_with fail
      go_ret
      exact ⟨ret_int (by rw [CEE.out]; simp), O6.out.trans2 h7 (fun y hy => .inr (by have := L4.out; simp at hy; omega))⟩
    · have Z0 := hid hz
      go_wp2_with fail
      go_ret
      exact ⟨ret_int (by rw [CEE.out, if_pos Z0.out]), O6.out⟩
end Go.Proofs.YtjjjfmnhdnajkaaGreatDoor

end
section
set_option maxRecDepth 20000
namespace Go.Proofs.YtjjjfmnhdnajkaaGreatDoor
open Go.RowKit
set_option linter.unusedVariables false
set_option linter.unusedSimpArgs false

set_option maxHeartbeats 4000000 in
theorem putbegin_any {un : UN} {x : HV} {mv kv d1 d2 : Value} {w : World} {hb b : Nat} {sv : Value} {L : List Bool} (hB : Blk w hb 73 (hdC x mv kv un d1 d2)) (hw : Wr w b sv L) (hb1 : hb ≠ b) (hb2 : hb ∉ ownOf sv) (hL : L.length ≤ 100000) (f0 : 0 ≤ x.fi) (f1 : x.fi ≤ 8159) (p0 : 0 ≤ x.pps) (p1 : x.pps ≤ 31) :
    Calls Tryz.prog 30 #[.pointer (some ⟨hb, 0, none⟩), .pointer (some ⟨b, 0, none⟩)] w fun e w' => e = .returned (.tuple #[]) ∧ ∃ sv', PutLeft w w' b sv sv' (L ++ beginB x) := by
  obtain ⟨F, hF⟩ := Int.eq_ofNat_of_zero_le f0
  obtain ⟨P, hP⟩ := Int.eq_ofNat_of_zero_le p0
  have k0 := hB.cell (i := 0) (v := .int .i64 x.fi) rfl
  have k1 := hB.cell (i := 1) (v := .bool x.intra) rfl
  have k2 := hB.cell (i := 2) (v := .bool x.whole) rfl
  have k3 := hid (fun w' (o : Only (b :: ownOf sv) w w') => o.cell (hB.cell (i := 3) (v := .int .i64 x.pps) rfl) (by simp [hb1, hb2]))
  have PU := hid (fun (sv : Value) (L : List Bool) (v : Nat) (w : World) (h : Wr w b sv L) (hv : v ≤ 4294967294) (hL : L.length ≤ 1000000) => show Calls Tryz.prog 64 #[.pointer (some ⟨b, 0, none⟩), .int .u64 v] w fun e w' => e = .returned (.int .i64 0) ∧ ∃ sv', PutLeft w w' b sv sv' (L ++ ueBits v) by
    have := putue_any b sv L v w h (by omega) (by omega)
    rw [show wrUe L v = (0, L ++ ueBits v) from by unfold wrUe; rw [if_neg (by omega)]] at this
    exact this)
  have l1 := ueBits_le F (by omega)
  have l2 := ueBits_le (kindH x) (by have := kindH_le x; omega)
  have BB : beginB x = ueBits F ++ (ueBits (kindH x) ++ ueBits P) := by unfold beginB; rw [hF, hP]; rfl
  rw [BB]
  rw [hF] at k0 f1
  rw [hP] at k3 p1
  have KH : kindH x = (if x.intra = true then 2 else 0) + (if x.whole = true then 5 else 0) := rfl
  generalize kindH x = K at *
  generalize x.intra = ii at *
  generalize x.whole = wh at *
  have W := hid hw
  have LL := hid (show (L ++ ueBits F).length ≤ 200000 ∧ (L ++ ueBits F ++ ueBits K).length ≤ 300000 by simp only [List.length_append]; omega)
  (try simp only [Int.ofNat_eq_natCast] at k0 k3 f1 p1)
  clear hF hP f0 p0 BB hB hw l1 l2
  cases ii <;> cases wh
  all_goals
    simp only [Bool.false_eq_true, if_true, if_false, Nat.reduceAdd] at KH
    subst KH
    go_enter Tryz.func30, Tryz.ntmps30
    go_wp2_with fail
    refine (PU.out sv L F w W.out (by omega) (by omega)).mono ?_
    rintro e w1 ⟨rfl, sv1, h1⟩
    have P1 := hid h1
    clear h1 k0 k1 k2
    go_wp2_with fail
    refine (PU.out sv1 _ _ w1 P1.out.wr (by decide) (by have := LL.out.1; omega)).mono ?_
    rintro e w2 ⟨rfl, sv2, h2⟩
    have P2 := hid (P1.out.trans h2)
    clear h2 P1
    have c3 := k3.out _ P2.out.only
    go_wp2_with fail
    refine (PU.out sv2 _ _ w2 P2.out.wr (by omega) (by have := LL.out.2; omega)).mono ?_
    rintro e w3 ⟨rfl, sv3, h3⟩
    have P3 := hid (P2.out.trans h3)
    clear h3 P2 c3
    go_wp2_with fail
    go_end0
    refine ⟨rfl, sv3, ?_⟩
    have := P3.out
    simpa only [List.append_assoc] using this
theorem rest_at (un : UN) (x : HV) : ∀ k j, restE un x k j = 0 → ∀ i, j ≤ i → i < j + k → stepE un x i = 0 := by
  intro k
  induction k with
  | zero => intro j _ i h1 h2; omega
  | succ k ih =>
    intro j h i h1 h2
    obtain ⟨a, b⟩ := restE_cons h
    by_cases e : i = j
    · rw [e]; exact a
    · exact ih (j + 1) b i (by omega) (by omega)
theorem rest_all {un : UN} {x : HV} (h : restE un x 15 0 = 0) (j : Nat) : stepE un x j = 0 := by
  by_cases hj : j < 15
  · exact rest_at un x 15 0 h j (by omega) (by omega)
  · obtain ⟨m, rfl⟩ : ∃ m, j = m + 15 := ⟨j - 15, by omega⟩
    rfl
theorem len_beginB (x : HV) (f0 : 0 ≤ x.fi) (f1 : x.fi ≤ 8159) (p0 : 0 ≤ x.pps) (p1 : x.pps ≤ 31) : (beginB x).length ≤ 200 := by
  have l1 := ueBits_le x.fi.toNat (by omega)
  have l2 := ueBits_le (kindH x) (by have := kindH_le x; omega)
  have l3 := ueBits_le x.pps.toNat (by omega)
  unfold beginB
  simp only [List.length_append]
  omega
set_option maxRecDepth 100000 in
theorem put_through {x : HV} {un : UN} {ma ka : Option Addr} {mc kc b hb : Nat} {sv sv4 : Value} {L : List Bool} {w w4 : World} (VV : Hid (Vars w)) (HH1 : Hid (HoldsM w (.slice ma x.mods.length mc) x.mods ∧ Aside (.slice ma x.mods.length mc) x.mods b sv)) (HH2 : Hid (HoldsM w (.slice ka x.marks.length kc) x.marks ∧ Aside (.slice ka x.marks.length kc) x.marks b sv))
    (WW : Hid (Wr w b sv L ∧ ∀ m, kindG m ∉ b :: ownOf sv)) (L2 : Hid (w.heap.size ≤ hb)) (P4 : Hid (PutLeft w w4 b sv sv4 (L ++ beginB x))) (B4 : Hid (Blk w4 hb 73 (hdC x (.slice ma x.mods.length mc) (.slice ka x.marks.length kc) un .nilFunc .nilFunc))) (T4 : Hid (hb ∉ b :: ownOf sv4))
    (G : Hid (0 ≤ x.fi ∧ x.fi ≤ 8159 ∧ 0 ≤ x.pps ∧ x.pps ≤ 31)) (T23 : Hid (okS un.s = true ∧ okP un.p = true)) (U2 : Hid (restE un x 15 0 = 0)) (o1 : OksM x.mods) (o2 : OksM x.marks) (hL : L.length ≤ 90000) :
    ∀ o, Calls Tryz.prog 31 #[.pointer (some ⟨hb, 0, none⟩), .agg #[.func (.func 32) #[.agg #[.pointer (some ⟨b, 0, none⟩)]] #[], .func (.func 33) #[.agg #[.pointer (some ⟨b, 0, none⟩)]] #[]]] (w4.alloc o) (fun e w' => e = .returned (.int .i64 0) ∧ ∃ sv', PutLeft w w' b sv sv' (L ++ bitsH un x)) := by
  have PS := hid (fun j L (h : stepE un x j = 0) => put_step un x j L o1 o2 h)
  have PR := hid (fun L (h : restE un x 15 0 = 0) => put_run un x o1 o2 15 0 L h)
  intro o
  have hT4 : ∀ y, y ∈ b :: ownOf sv4 → y ∈ b :: ownOf sv ∨ w.heap.size ≤ y := by
    intro y hy
    rcases List.mem_cons.1 hy with e | e
    · exact .inl (by simp [e])
    · exact (P4.out.own y e).imp (List.mem_cons_of_mem _) id
  have hT5 : ∀ y, y ∈ hb :: b :: ownOf sv4 → y ∈ b :: ownOf sv ∨ w.heap.size ≤ y := by
    intro y hy
    rcases List.mem_cons.1 hy with e | e
    · exact .inr (by have := L2.out; omega)
    · exact hT4 y e
  have oa := (Only.refl [] w4).alloc o
  have s1 : Sl w (.slice ma x.mods.length mc) x.mods (b :: ownOf sv) := ⟨HH1.out.1, fun ad n c e hl h => by
    have := HH1.out.2 ad n c e hl
    rcases List.mem_cons.1 h with e | e
    · exact this.1 e
    · exact this.2 e⟩
  have s2 : Sl w (.slice ka x.marks.length kc) x.marks (b :: ownOf sv) := ⟨HH2.out.1, fun ad n c e hl h => by
    have := HH2.out.2 ad n c e hl
    rcases List.mem_cons.1 h with e | e
    · exact this.1 e
    · exact this.2 e⟩
  have hl := len_beginB x G.out.1 G.out.2.1 G.out.2.2.1 G.out.2.2.2
  refine (through_any (E := ptE b) (un := un) (W0 := w) (S0 := b :: ownOf sv) (n := 0) (x := x) (st := L ++ beginB x)
    ⟨⟨b :: ownOf sv4, _, _, B4.out.only oa (by simp), ⟨sv4, rfl, P4.out.wr.only oa (by simp) (by simp), by rw [List.length_append]; omega, (VV.out.only P4.out.only WW.out.2).only0 oa, fun m h => ?_⟩, T4.out, (s1.step P4.out.only (fun y hy => .inl hy) hT5).only oa (by simp), (s2.step P4.out.only (fun y hy => .inl hy) hT5).only oa (by simp), hT5, (fun _ _ _ _ _ h => by cases h), (fun _ _ _ _ _ h => by cases h), (fun _ h => by cases h)⟩, P4.out.only.trans (oa.mono (by simp))⟩
    (by omega) (fun m h => ?_) T23.out.1 T23.out.2 rfl rfl (fun _ x' _ => x' = x) rfl (fun j x' st' h => ?_)).mono fun e w' ⟨ha, hh⟩ => ?_
  · rcases hT4 _ h with e | e
    · exact WW.out.2 m e
    · have := VV.out.lt m; omega
  · have := VV.out.lt m
    have := L2.out
    omega
  · subst h
    have hz : stepE un x' j = 0 := rest_all U2.out j
    have := PS.out j st' hz
    refine ⟨this.2, fun _ => ?_⟩
    rw [this.1]
  · rw [PR.out _ U2.out] at ha hh
    obtain ⟨⟨T, mv, kv, g1, ⟨sv', rfl, g2, _, _, _⟩, _, _, _, g6, _⟩, g7⟩ := hh
    refine ⟨ha, sv', ⟨?_, fun g hg => ?_, g7⟩⟩
    · have e : L ++ beginB x ++ restB un x 15 0 = L ++ bitsH un x := by unfold bitsH; rw [List.append_assoc]
      rw [← e]
      exact g2
    · rcases g6 g (by simp [hg]) with e | e
      · rcases List.mem_cons.1 e with e | e
        · subst e; exact absurd hg g2.apart
        · exact .inl e
      · exact .inr e
set_option maxRecDepth 100000 in
set_option maxHeartbeats 8000000 in
theorem hput_any (x : HV) (un : UN) (mv kv : Value) (b : Nat) (sv : Value) (L : List Bool) (w : World) (hVr : Vars w) (h1 : HoldsM w mv x.mods) (h2 : HoldsM w kv x.marks) (o1 : OksM x.mods) (o2 : OksM x.marks) (r0 : 0 ≤ un.ref)
    (hw : Wr w b sv L) (hG : ∀ m, kindG m ∉ b :: ownOf sv) (a1 : Aside mv x.mods b sv) (a2 : Aside kv x.marks b sv) (hL : L.length ≤ 90000) :
    Calls Tryz.prog 8 #[.pointer (some ⟨b, 0, none⟩), hV x mv kv, .int .u8 un.ref, .bool un.idr, pV un.p, sV un.s] w fun e w' => e = .returned (.int .i64 (putH un x L).1) ∧ ∃ sv', PutLeft w w' b sv sv' (putH un x L).2 := by
  obtain ⟨ma, mc, hmv, _⟩ := id h1
  obtain ⟨ka, kc, hkv, _⟩ := id h2
  subst hmv hkv
  have HH1 := hid (And.intro h1 a1)
  have HH2 := hid (And.intro h2 a2)
  have VV := hid hVr
  have WW := hid (And.intro hw hG)
  have O1 := hid ((((Only.refl [] w).alloc (.cells (hC x (.slice ma x.mods.length mc) (.slice ka x.marks.length kc)).toArray 34)).alloc (.cells (pL un.p).toArray 24)).alloc (.cells (sL un.s).toArray 27))
  obtain ⟨W1, hW1⟩ : ∃ W1, W1 = ((w.alloc (.cells (hC x (.slice ma x.mods.length mc) (.slice ka x.marks.length kc)).toArray 34)).alloc (.cells (pL un.p).toArray 24)).alloc (.cells (sL un.s).toArray 27) := ⟨_, rfl⟩
  have BX := hid (fun w' (o : Only [] W1 w') => (show Blk W1 w.heap.size 34 _ from hW1 ▸ ((Blk.new w _ _).only (((Only.refl [] _).alloc _).alloc _) (by simp))).only o (by simp))
  have BP := hid (fun w' (o : Only [] W1 w') => (show Blk W1 (w.heap.size + 1) 24 (pL un.p).toArray from by
    have := (Blk.new (w.alloc (.cells (hC x (.slice ma x.mods.length mc) (.slice ka x.marks.length kc)).toArray 34)) 24 (pL un.p).toArray).only ((Only.refl [] _).alloc (.cells (sL un.s).toArray 27)) (by simp)
    rw [World.size_alloc] at this
    exact hW1 ▸ this).only o (by simp))
  have BS := hid (fun w' (o : Only [] W1 w') => (show Blk W1 (w.heap.size + 1 + 1) 27 (sL un.s).toArray from by
    have := Blk.new ((w.alloc (.cells (hC x (.slice ma x.mods.length mc) (.slice ka x.marks.length kc)).toArray 34)).alloc (.cells (pL un.p).toArray 24)) 27 (sL un.s).toArray
    rw [World.size_alloc, World.size_alloc] at this
    exact hW1 ▸ this).only o (by simp))
  rw [← hW1] at O1
  have CK := hid (fun w' (o : Only [] w w') => hcheck_any x un _ _ w' (hVr.only0 o) (h1.only0 o) (h2.only0 o) o1 o2 r0)
  have HC : checkH un x = 0 → unE un = 0 ∧ beginE un x = 0 ∧ restE un x 15 0 = 0 := checkH_ok
  have PH : putH un x L = if checkH un x ≠ 0 then (checkH un x, L) else (0, L ++ bitsH un x) := rfl
  rw [PH]
  obtain ⟨z, hz⟩ : ∃ z, z = checkH un x := ⟨_, rfl⟩
  have HZ := hid hz
  rw [← hz] at CK HC ⊢
  clear hz PH h1 h2 hVr hw hG a1 a2
  simp only [hV, hC] at hW1 CK ⊢
  simp only [pL, sL] at hW1
  by_cases h0 : z = 0
  · obtain ⟨u0, u1, u2⟩ := HC h0
    obtain ⟨t1, t2, t3, t4⟩ := un_ok u0
    obtain ⟨g1, g2, g3, g4, g5, g6, g7⟩ := begin_ok t2 t3 u1
    have T23 := hid (And.intro t2 t3)
    have G := hid (And.intro g1.1 (And.intro g2 (And.intro g6 g7)))
    have U2 := hid u2
    subst h0
    rw [if_neg (by simp)]
    clear HC u0 u1 u2 t1 t2 t3 t4 g1 g2 g3 g4 g5 g6 g7 HZ
    go_enter Tryz.func8, Tryz.ntmps8
    go_upto_region 3 with (fail)
    rw [← hW1]
    clear hW1
    have OO := hid (Only.refl [] W1)
    go_wp2_with (first | (refine load_blk rfl 34 _ rfl _ _ (hC x (.slice ma x.mods.length mc) (.slice ka x.marks.length kc)) rfl (BX.out _ OO.out) (hl_hdr _ _ _ _) ?_; simp only [hC]) | (refine load_blk rfl 24 _ rfl _ _ (pL un.p) rfl (BP.out _ OO.out) (hl_pps _ _) ?_; simp only [pL]) | (refine load_blk rfl 27 _ rfl _ _ (sL un.s) rfl (BS.out _ OO.out) (hl_sps _ _) ?_; simp only [sL]))
    refine (CK.out _ O1.out).mono ?_
    rintro e w2 ⟨rfl, h3⟩
    clear OO CK
    have OO := hid h3
    clear h3
    go_wp2_with (first | (refine load_blk rfl 34 _ rfl _ _ (hC x (.slice ma x.mods.length mc) (.slice ka x.marks.length kc)) rfl (BX.out _ OO.out) (hl_hdr _ _ _ _) ?_; simp only [hC]) | (refine load_blk rfl 24 _ rfl _ _ (pL un.p) rfl (BP.out _ OO.out) (hl_pps _ _) ?_; simp only [pL]) | (refine load_blk rfl 27 _ rfl _ _ (sL un.s) rfl (BS.out _ OO.out) (hl_sps _ _) ?_; simp only [sL]))
    generalize hW3 : w2.alloc _ = w3
    have HB3 : Blk w3 w2.heap.size 73 (hdC x (.slice ma x.mods.length mc) (.slice ka x.marks.length kc) un .nilFunc .nilFunc) := hW3 ▸ Blk.new w2 _ _
    have O3 := hid ((O1.out.trans OO.out).trans (show Only [] w2 w3 from hW3 ▸ (Only.refl [] w2).alloc _))
    have L2 := hid (Nat.le_trans O1.out.size OO.out.size)
    have H3 := hid HB3
    have HBT := hid (show w2.heap.size ∉ b :: ownOf sv from fun h => by
      have := L2.out
      rcases List.mem_cons.1 h with e | e
      · have := WW.out.1.lt; omega
      · have := WW.out.1.row.lt _ e; omega)
    clear hW3 HB3 BX BP BS OO O1
    generalize w2.heap.size = hb at *
    have PB := hid (putbegin_any H3.out (WW.out.1.only O3.out (by simp) (by simp)) (fun h => HBT.out (by simp [h])) (fun h => HBT.out (by simp [h])) (by omega) G.out.1 G.out.2.1 G.out.2.2.1 G.out.2.2.2)
    refine PB.out.mono ?_
    rintro e w4 ⟨rfl, sv4, h4⟩
    have P4 := hid (show PutLeft w w4 b sv sv4 (L ++ beginB x) from ⟨h4.wr, fun g hg => (h4.own g hg).imp id (Nat.le_trans O3.out.size), (O3.out.mono (by simp)).trans h4.only⟩)
    have B4 := hid (H3.out.only h4.only HBT.out)
    have T4 := hid (show hb ∉ b :: ownOf sv4 from fun h => by
      rcases List.mem_cons.1 h with e | e
      · exact HBT.out (by simp [e])
      · rcases h4.own hb e with e2 | e2
        · exact HBT.out (by simp [e2])
        · have := H3.out.lt; omega)
    clear h4 H3 PB
    have TH := put_through VV HH1 HH2 WW L2 P4 B4 T4 G T23 U2 o1 o2 hL
    replace TH := hid TH
    clear VV WW G L2 HBT P4 B4 T4 U2 T23 O3 HH1 HH2
    go_wp2_with fail
    refine (TH.out _).mono ?_
    rintro e w5 ⟨rfl, hP⟩
    go_wp2_with fail
    go_ret
    exact ⟨rfl, hP⟩
  · have Z0 := hid h0
    rw [if_pos h0]
    clear HC
    go_enter Tryz.func8, Tryz.ntmps8
    go_upto_region 3 with (fail)
    rw [← hW1]
    clear hW1
    have OO := hid (Only.refl [] W1)
    go_wp2_with (first | (refine load_blk rfl 34 _ rfl _ _ (hC x (.slice ma x.mods.length mc) (.slice ka x.marks.length kc)) rfl (BX.out _ OO.out) (hl_hdr _ _ _ _) ?_; simp only [hC]) | (refine load_blk rfl 24 _ rfl _ _ (pL un.p) rfl (BP.out _ OO.out) (hl_pps _ _) ?_; simp only [pL]) | (refine load_blk rfl 27 _ rfl _ _ (sL un.s) rfl (BS.out _ OO.out) (hl_sps _ _) ?_; simp only [sL]))
    refine (CK.out _ O1.out).mono ?_
    rintro e w2 ⟨rfl, h3⟩
    go_wp2_with fail
    go_ret
    have o := O1.out.trans h3
    exact ⟨rfl, sv, ⟨WW.out.1.only o (by simp) (by simp), fun g hg => .inl hg, o.mono (by simp)⟩⟩
set_option maxHeartbeats 1000000 in
theorem hput_nil (x : HV) (un : UN) (w : World) {a1 a2 : Option Addr} {n1 n2 c1 c2 : Nat} :
    Calls Tryz.prog 8 #[.pointer none, hV x (.slice a1 n1 c1) (.slice a2 n2 c2), .int .u8 un.ref, .bool un.idr, pV un.p, sV un.s] w fun e w' => e = .returned (.int .i64 1) ∧ Only [] w w' := by
  simp only [hV, hC]
  go_enter Tryz.func8, Tryz.ntmps8
  go_wp2_with fail
  go_ret
  exact ⟨rfl, (((Only.refl [] w).alloc _).alloc _).alloc _⟩
end Go.Proofs.YtjjjfmnhdnajkaaGreatDoor

end

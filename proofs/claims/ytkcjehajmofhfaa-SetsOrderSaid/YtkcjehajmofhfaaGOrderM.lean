/- SetsOrder: plain facts on lists of puts; the two stores and the two parameter sets that are not valid. -/
import Derived.Test.YtkcjehajmofhfaaSeV
import Derived.Deep.LoopGhost
import Derived.Deep.CutBlock
namespace Go.Proofs.Ytkcjehajmofhfaa
open Go.RowKit Go.Maps
set_option linter.unusedVariables false

theorem mod_kk (n m : Int) (K : Nat) (w : World) (hm : 0 < m) (hm2 : m ≤ 100) (hK : n % m = K) : Calls Try.prog 21 #[.int .i64 n, .int .i64 m] w fun e w' => e = .returned (.int .i64 (K : Int)) ∧ w = w' := hK ▸ mod_any n m w hm hm2
theorem mod_s (n m : Int) (w : World) (hm : 0 < m) (hm2 : m ≤ 100) : Calls Try.prog 21 #[.int .i64 n, .int .i64 m] w fun e w' => e = .returned (.int .i64 (n % m)) ∧ w' = w := (mod_any n m w hm hm2).mono fun _ _ ⟨a, b⟩ => ⟨a, b.symm⟩
theorem UAt.new (w : World) (T : TypeId) (x : Bool × Int × Int) : UAt (w.alloc (.cells #[.bool x.1, .int .i64 x.2.1, .int .i64 x.2.2] T)) w.heap.size 0 x := ⟨by simp, by simp, by simp⟩
theorem UAt.two (w : World) (T : TypeId) (x y : Bool × Int × Int) : UAt ((w.alloc (.cells #[.bool x.1, .int .i64 x.2.1, .int .i64 x.2.2] T)).alloc (.cells #[.bool y.1, .int .i64 y.2.1, .int .i64 y.2.2] T)).drew w.heap.size 0 x ∧ UAt ((w.alloc (.cells #[.bool x.1, .int .i64 x.2.1, .int .i64 x.2.2] T)).alloc (.cells #[.bool y.1, .int .i64 y.2.1, .int .i64 y.2.2] T)).drew (w.heap.size + 1) 0 y :=
  ⟨(UAt.new w T x).only ((Only.refl [] _).alloc _).drew (by simp), by
    have a := UAt.new (w.alloc (.cells #[.bool x.1, .int .i64 x.2.1, .int .i64 x.2.2] T)) T y
    have e : (w.alloc (.cells #[.bool x.1, .int .i64 x.2.1, .int .i64 x.2.2] T)).heap.size = w.heap.size + 1 := by simp
    rw [e] at a
    exact a.only (Only.refl [] _).drew (by simp)⟩
def putsF (f : Int → Option SV) (l : List (Bool × Int × Int)) : Int → Option SV := l.foldl putF f
def putsG (g : Int → Option PV) (l : List (Bool × Int × Int)) : Int → Option PV := l.foldl putG g
theorem take_oneU (l : List (Bool × Int × Int)) (j : Nat) (x : Bool × Int × Int) (h : l[j]? = some x) : l.take (j + 1) = l.take j ++ [x] := by
  obtain ⟨hl, rfl⟩ := List.getElem?_eq_some_iff.1 h
  exact List.take_succ_eq_append_getElem hl
theorem putsF_one (f : Int → Option SV) {l : List (Bool × Int × Int)} {j : Nat} {x : Bool × Int × Int} (h : l[j]? = some x) : putsF f (l.take (j + 1)) = putF (putsF f (l.take j)) x := by
  rw [take_oneU l j x h, putsF, List.foldl_append]; rfl
theorem putsG_one (g : Int → Option PV) {l : List (Bool × Int × Int)} {j : Nat} {x : Bool × Int × Int} (h : l[j]? = some x) : putsG g (l.take (j + 1)) = putG (putsG g (l.take j)) x := by
  rw [take_oneU l j x h, putsG, List.foldl_append]; rfl
theorem putF_twice (f : Int → Option SV) (x : Bool × Int × Int) : putF (putF f x) x = putF f x := by
  unfold putF
  split
  · rfl
  · rw [upd_twice]
theorem putG_twice (g : Int → Option PV) (x : Bool × Int × Int) : putG (putG g x) x = putG g x := by
  unfold putG
  split
  · rw [upd_twice]
  · rfl
theorem putF_swap (f : Int → Option SV) (x y : Bool × Int × Int) (h : x.1 ≠ y.1 ∨ x.2.1 % 4 ≠ y.2.1 % 4) : putF (putF f x) y = putF (putF f y) x := by
  obtain ⟨a, i, o⟩ := x
  obtain ⟨b, k, p⟩ := y
  cases a <;> cases b
  · simp only [ne_eq, not_true_eq_false, false_or] at h
    exact upd_swap f _ _ (Ne.symm h)
  · rfl
  · rfl
  · rfl
theorem putG_swap (g : Int → Option PV) (x y : Bool × Int × Int) (h : x.1 ≠ y.1 ∨ x.2.1 % 4 ≠ y.2.1 % 4) : putG (putG g x) y = putG (putG g y) x := by
  obtain ⟨a, i, o⟩ := x
  obtain ⟨b, k, p⟩ := y
  cases a <;> cases b
  · rfl
  · rfl
  · rfl
  · simp only [ne_eq, not_true_eq_false, false_or] at h
    exact upd_swap g _ _ (Ne.symm h)
/-- Two elements next to each other change places. -/
def swapL (l : List (Bool × Int × Int)) (k : Nat) (a b : Bool × Int × Int) : List (Bool × Int × Int) := (l.set k b).set (k + 1) a
theorem swap_split {l : List (Bool × Int × Int)} {k : Nat} {a b : Bool × Int × Int} (ha : l[k]? = some a) (hb : l[k + 1]? = some b) : l = l.take k ++ a :: b :: l.drop (k + 2) ∧ swapL l k a b = l.take k ++ b :: a :: l.drop (k + 2) := by
  obtain ⟨h1, e1⟩ := List.getElem?_eq_some_iff.1 ha
  obtain ⟨h2, e2⟩ := List.getElem?_eq_some_iff.1 hb
  have e : l = l.take k ++ a :: b :: l.drop (k + 2) := by
    rw [← e1, ← e2, ← List.drop_eq_getElem_cons h2, ← List.drop_eq_getElem_cons h1, List.take_append_drop]
  refine ⟨e, ?_⟩
  have hk : (l.take k).length = k := by rw [List.length_take]; omega
  unfold swapL
  generalize l.take k = X at e hk
  generalize l.drop (k + 2) = Y at e
  subst e
  rw [List.set_append_right _ _ (by omega), hk, List.set_append_right _ _ (by omega), hk]
  simp
theorem putsF_swap (f : Int → Option SV) {l : List (Bool × Int × Int)} {k : Nat} {a b : Bool × Int × Int} (ha : l[k]? = some a) (hb : l[k + 1]? = some b) (h : a.1 ≠ b.1 ∨ a.2.1 % 4 ≠ b.2.1 % 4) : putsF f (swapL l k a b) = putsF f l := by
  obtain ⟨e1, e2⟩ := swap_split ha hb
  rw [e2]
  conv => rhs; rw [e1]
  unfold putsF
  simp only [List.foldl_append, List.foldl_cons]
  rw [putF_swap _ a b h]
theorem putsG_swap (g : Int → Option PV) {l : List (Bool × Int × Int)} {k : Nat} {a b : Bool × Int × Int} (ha : l[k]? = some a) (hb : l[k + 1]? = some b) (h : a.1 ≠ b.1 ∨ a.2.1 % 4 ≠ b.2.1 % 4) : putsG g (swapL l k a b) = putsG g l := by
  obtain ⟨e1, e2⟩ := swap_split ha hb
  rw [e2]
  conv => rhs; rw [e1]
  unfold putsG
  simp only [List.foldl_append, List.foldl_cons]
  rw [putG_swap _ a b h]
theorem swapL_length (l : List (Bool × Int × Int)) (k : Nat) (a b : Bool × Int × Int) : (swapL l k a b).length = l.length := by simp [swapL]

/-- A list that grew by new blocks is still apart from another one. -/
theorem apart_grown {w : World} {L L' M : List Nat} (d : ∀ y, y ∈ L → y ∉ M) (hl : ∀ y, y ∈ L' → y ∈ L ∨ w.heap.size ≤ y) (hM : ∀ y, y ∈ M → y < w.heap.size) : ∀ y, y ∈ L' → y ∉ M := fun y hy hm => by
  rcases hl y hy with h | h
  · exact d y h hm
  · have := hM y hm; omega
theorem apart_symm {L M : List Nat} (d : ∀ y, y ∈ L → y ∉ M) : ∀ y, y ∈ M → y ∉ L := fun y hm hl => d y hl hm

/-- Two stores, two parameter sets. -/
structure Sit (W w : World) (B1 B2 s t : Nat) (Ls Lt : List Nat) (f : Int → Option SV) (g : Int → Option PV) (f' : Int → Option SV) (g' : Int → Option PV) (n m : Nat) (bad : SV) (worse : PV) : Prop where
  ss : StL w s Ls f g n
  st : StL w t Lt f' g' m
  ks : ∀ y, y ∈ Ls → B2 < y
  kt : ∀ y, y ∈ Lt → B2 < y
  d : ∀ y, y ∈ Ls → y ∉ Lt
  a1 : SAt w B1 0 bad
  a2 : PAt w B2 0 worse
  b1 : W.heap.size ≤ B1
  b2 : B1 < B2
  o : Only [] W w
section
variable {W w w' : World} {B1 B2 s t : Nat} {Ls Lt L' : List Nat} {f f1 : Int → Option SV} {g g1 : Int → Option PV} {f' : Int → Option SV} {g' : Int → Option PV} {n m k : Nat} {bad : SV} {worse : PV}
theorem Sit.lt2 (h : Sit W w B1 B2 s t Ls Lt f g f' g' n m bad worse) : B2 < w.heap.size := World.block_lt_of_cell? _ _ h.a2.c0
theorem Sit.only (h : Sit W w B1 B2 s t Ls Lt f g f' g' n m bad worse) (k : Only [] w w') : Sit W w' B1 B2 s t Ls Lt f g f' g' n m bad worse :=
  ⟨h.ss.only k (by simp), h.st.only k (by simp), h.ks, h.kt, h.d, h.a1.only k (by simp), h.a2.only k (by simp), h.b1, h.b2, h.o.trans k⟩
theorem Sit.putS (h : Sit W w B1 B2 s t Ls Lt f g f' g' n m bad worse) (hs : StL w' s L' f1 g1 k) (ho : Only Ls w w') (hl : ∀ y, y ∈ L' → y ∈ Ls ∨ w.heap.size ≤ y) : Sit W w' B1 B2 s t L' Lt f1 g1 f' g' k m bad worse :=
  ⟨hs, h.st.only ho (apart_symm h.d), fun y hy => (hl y hy).elim (h.ks y) (fun e => by have := h.lt2; omega), h.kt, apart_grown h.d hl h.st.lt, h.a1.only ho (fun e => by have := h.ks _ e; have := h.b2; omega), h.a2.only ho (fun e => by have := h.ks _ e; omega), h.b1, h.b2,
    h.o.trans2 ho (fun x hx => .inr (by have := h.ks _ hx; have := h.b1; have := h.b2; omega))⟩
theorem Sit.putT (h : Sit W w B1 B2 s t Ls Lt f g f' g' n m bad worse) (hs : StL w' t L' f1 g1 k) (ho : Only Lt w w') (hl : ∀ y, y ∈ L' → y ∈ Lt ∨ w.heap.size ≤ y) : Sit W w' B1 B2 s t Ls L' f g f1 g1 n k bad worse :=
  ⟨h.ss.only ho h.d, hs, h.ks, fun y hy => (hl y hy).elim (h.kt y) (fun e => by have := h.lt2; omega), apart_symm (apart_grown (apart_symm h.d) hl h.ss.lt), h.a1.only ho (fun e => by have := h.kt _ e; have := h.b2; omega), h.a2.only ho (fun e => by have := h.kt _ e; omega), h.b1, h.b2,
    h.o.trans2 ho (fun x hx => .inr (by have := h.kt _ hx; have := h.b1; have := h.b2; omega))⟩
end
theorem far2 (B1 B2 i : Nat) (w : World) (h : i ≠ 4 ∧ B1 ≠ B2) : ((w.setCell ⟨B1, 4, none⟩ (.int .i64 0)).setCell ⟨B2, 3, none⟩ (.int .i64 0)).cell? ⟨B1, 0 + i, none⟩ = w.cell? ⟨B1, 0 + i, none⟩ := by
  rw [World.cell?_setCell_other _ _ _ _ (by intro e; injection e; omega), World.cell?_setCell_other _ _ _ _ (by intro e; injection e; omega)]
theorem far3 (B1 B2 i : Nat) (w : World) (h : i ≠ 3) (h2 : B1 ≠ B2) : ((w.setCell ⟨B1, 4, none⟩ (.int .i64 0)).setCell ⟨B2, 3, none⟩ (.int .i64 0)).cell? ⟨B2, 0 + i, none⟩ = w.cell? ⟨B2, 0 + i, none⟩ := by
  rw [World.cell?_setCell_other _ _ _ _ (by intro e; injection e; omega), World.cell?_setCell_other _ _ _ _ (by intro e; injection e; omega)]
def badF (x : SV) : SV := ⟨x.pr, x.fl, x.lv, x.id, 0, x.pb, x.rf, x.wd, x.ht⟩
def worF (x : PV) : PV := ⟨x.id, x.sps, x.cab, 0, x.r1, x.qp, x.qs, x.ch, x.db, x.nt⟩
theorem Sit.fix {W w : World} {B1 B2 s t : Nat} {Ls Lt : List Nat} {f f' : Int → Option SV} {g g' : Int → Option PV} {n m : Nat} {bad : SV} {worse : PV} (h : Sit W w B1 B2 s t Ls Lt f g f' g' n m bad worse) :
    Sit W ((w.setCell ⟨B1, 4, none⟩ (.int .i64 0)).setCell ⟨B2, 3, none⟩ (.int .i64 0)) B1 B2 s t Ls Lt f g f' g' n m (badF bad) (worF worse) := by
  have hb := h.b2
  have ho : Only [B1, B2] w ((w.setCell ⟨B1, 4, none⟩ (.int .i64 0)).setCell ⟨B2, 3, none⟩ (.int .i64 0)) := ((Only.refl _ w).setCell (.inl (by simp)) _).setCell (.inl (by simp)) _
  refine ⟨h.ss.only ho (fun y hy => by have := h.ks y hy; simp; omega), h.st.only ho (fun y hy => by have := h.kt y hy; simp; omega), h.ks, h.kt, h.d, ?_, ?_, h.b1, h.b2, h.o.trans2 ho (fun x hx => .inr (by have := h.b1; simp at hx; omega))⟩
  · have a := h.a1
    exact ⟨(far2 B1 B2 0 w (by omega)).trans a.c0, (far2 B1 B2 1 w (by omega)).trans a.c1, (far2 B1 B2 2 w (by omega)).trans a.c2, (far2 B1 B2 3 w (by omega)).trans a.c3, by rw [World.cell?_setCell_other _ _ _ _ (by intro e; injection e; omega)]; exact World.cell?_setCell_same _ _ _ a.c4, (far2 B1 B2 5 w (by omega)).trans a.c5, (far2 B1 B2 6 w (by omega)).trans a.c6, (far2 B1 B2 7 w (by omega)).trans a.c7, (far2 B1 B2 8 w (by omega)).trans a.c8⟩
  · have a := h.a2
    exact ⟨(far3 B1 B2 0 w (by omega) (by omega)).trans a.c0, (far3 B1 B2 1 w (by omega) (by omega)).trans a.c1, (far3 B1 B2 2 w (by omega) (by omega)).trans a.c2, World.cell?_setCell_same _ _ _ (by rw [World.cell?_setCell_other _ _ _ _ (by intro e; injection e; omega)]; exact a.c3), (far3 B1 B2 4 w (by omega) (by omega)).trans a.c4, (far3 B1 B2 5 w (by omega) (by omega)).trans a.c5, (far3 B1 B2 6 w (by omega) (by omega)).trans a.c6, (far3 B1 B2 7 w (by omega) (by omega)).trans a.c7, (far3 B1 B2 8 w (by omega) (by omega)).trans a.c8, (far3 B1 B2 9 w (by omega) (by omega)).trans a.c9⟩
/-- The slice in which the order lies. -/
def Ordr (w : World) (Lt : List Nat) (o : Value) (l : List (Bool × Int × Int)) : Prop := HoldsU w o l ∧ ∀ a k c, o = .slice (some a) k c → a.block ∉ Lt ∧ a.block < w.heap.size
theorem Ordr.put {w w' : World} {Lt L' : List Nat} {o : Value} {l : List (Bool × Int × Int)} (h : Ordr w Lt o l) (ho : Only Lt w w') (hl : ∀ y, y ∈ L' → y ∈ Lt ∨ w.heap.size ≤ y) : Ordr w' L' o l :=
  ⟨h.1.only ho (fun a k c e => (h.2 a k c e).1), fun a k c e => ⟨fun hy => (hl _ hy).elim (h.2 a k c e).1 (fun h2 => by have := (h.2 a k c e).2; omega), Nat.lt_of_lt_of_le (h.2 a k c e).2 ho.size⟩⟩
theorem Ordr.only {w w' : World} {Lt : List Nat} {o : Value} {l : List (Bool × Int × Int)} (h : Ordr w Lt o l) (ho : Only [] w w') : Ordr w' Lt o l :=
  ⟨h.1.only0 ho, fun a k c e => ⟨(h.2 a k c e).1, Nat.lt_of_lt_of_le (h.2 a k c e).2 ho.size⟩⟩
/-- A put is stored, cell by cell. -/
def setU (w : World) (A o : Nat) (x : Bool × Int × Int) : World := ((w.setCell ⟨A, o, none⟩ (.bool x.1)).setCell ⟨A, o + 1, none⟩ (.int .i64 x.2.1)).setCell ⟨A, o + 2, none⟩ (.int .i64 x.2.2)
theorem setU_far {w : World} {A o : Nat} {x : Bool × Int × Int} {B c : Nat} (h : B ≠ A ∨ c < o ∨ o + 3 ≤ c) : (setU w A o x).cell? ⟨B, c, none⟩ = w.cell? ⟨B, c, none⟩ := by
  unfold setU
  rw [World.cell?_setCell_other _ _ _ _ (by intro e; injection e; omega), World.cell?_setCell_other _ _ _ _ (by intro e; injection e; omega), World.cell?_setCell_other _ _ _ _ (by intro e; injection e; omega)]
theorem setU_only {w w0 : World} {A o : Nat} {x : Bool × Int × Int} {S : List Nat} (h : Only S w0 w) (hA : A ∈ S ∨ w0.heap.size ≤ A) : Only S w0 (setU w A o x) := ((h.setCell hA _).setCell hA _).setCell hA _
theorem setU_at {w : World} {A o : Nat} {x y : Bool × Int × Int} (h : UAt w A o y) : UAt (setU w A o x) A o x := by
  unfold setU
  refine ⟨?_, ?_, ?_⟩
  · rw [World.cell?_setCell_other _ _ _ _ (by intro e; injection e; omega), World.cell?_setCell_other _ _ _ _ (by intro e; injection e; omega)]
    exact World.cell?_setCell_same _ _ _ h.c0
  · rw [World.cell?_setCell_other _ _ _ _ (by intro e; injection e; omega)]
    refine World.cell?_setCell_same _ _ _ (u := .int .i64 y.2.1) ?_
    rw [World.cell?_setCell_other _ _ _ _ (by intro e; injection e; omega)]
    exact h.c1
  · refine World.cell?_setCell_same _ _ _ (u := .int .i64 y.2.2) ?_
    rw [World.cell?_setCell_other _ _ _ _ (by intro e; injection e; omega), World.cell?_setCell_other _ _ _ _ (by intro e; injection e; omega)]
    exact h.c2
theorem UAt.far {w : World} {A o B c : Nat} {x y : Bool × Int × Int} (h : UAt w B c y) (hf : B ≠ A ∨ c + 3 ≤ o ∨ o + 3 ≤ c) : UAt (setU w A o x) B c y :=
  ⟨(setU_far (by omega)).trans h.c0, (setU_far (by omega)).trans h.c1, (setU_far (by omega)).trans h.c2⟩
theorem swapL_at {l : List (Bool × Int × Int)} {k : Nat} {a b : Bool × Int × Int} (hk : k + 1 < l.length) (j : Nat) : (swapL l k a b)[j]? = if j = k + 1 then some a else if j = k then some b else l[j]? := by
  unfold swapL
  rw [List.getElem?_set]
  by_cases h1 : j = k + 1
  · subst h1; simp; omega
  · rw [if_neg (by omega), if_neg h1, List.getElem?_set]
    by_cases h2 : j = k
    · subst h2; simp; omega
    · rw [if_neg (by omega), if_neg h2]
theorem Ordr.swap {w : World} {Lt : List Nat} {gb go n c k : Nat} {l : List (Bool × Int × Int)} {a b : Bool × Int × Int} (h : Ordr w Lt (.slice (some ⟨gb, go, none⟩) n c) l) (ha : l[k]? = some a) (hb : l[k + 1]? = some b) :
    Ordr (setU (setU w gb (go + k * 3) b) gb (go + (k + 1) * 3) a) Lt (.slice (some ⟨gb, go, none⟩) n c) (swapL l k a b) := by
  have hk : k + 1 < l.length := (List.getElem?_eq_some_iff.1 hb).1
  obtain ⟨⟨ad, c', e, h1, h2, h3⟩, hd⟩ := h
  cases e
  have hl := hd _ _ _ rfl
  refine ⟨⟨_, _, by rw [swapL_length], by rw [swapL_length]; exact h1, h2, .inr ⟨gb, go, rfl, fun j x hj => ?_⟩⟩, fun a k c e => ?_⟩
  · have hh : ∀ (j : Nat) (x : Bool × Int × Int), l[j]? = some x → UAt w gb (go + j * 3) x := by
      rcases h3 with h3 | ⟨b', o', e, hc⟩
      · subst h3; simp at hk
      · cases e; exact hc
    rw [swapL_at hk] at hj
    by_cases e1 : j = k + 1
    · subst e1
      rw [if_pos rfl] at hj
      cases hj
      exact setU_at ((hh (k + 1) b hb).far (by omega))
    · rw [if_neg e1] at hj
      by_cases e2 : j = k
      · subst e2
        rw [if_pos rfl] at hj
        cases hj
        exact (setU_at (hh j a ha)).far (by omega)
      · rw [if_neg e2] at hj
        exact ((hh j x hj).far (by omega)).far (by omega)
  · cases e
    exact ⟨hl.1, by simpa [setU] using hl.2⟩
/-- The order, in which two puts may have changed places. -/
def OrdP (W w : World) (B1 B2 S T : Nat) (Ls : List Nat) (sv : Value) (l : List (Bool × Int × Int)) (bad : SV) (worse : PV) : Prop :=
  ∃ ord, Ordr w [T] sv ord ∧ putsF (fun _ => none) ord = putsF (fun _ => none) l ∧ putsG (fun _ => none) ord = putsG (fun _ => none) l ∧ ord.length = l.length ∧ Sit W w B1 B2 S T Ls [T] (putsF (fun _ => none) l) (putsG (fun _ => none) l) (fun _ => none) (fun _ => none) 30 0 bad worse
theorem OrdP.swap {W w : World} {B1 B2 S T gb go n c k : Nat} {Ls : List Nat} {l : List (Bool × Int × Int)} {bad : SV} {worse : PV} {a b : Bool × Int × Int} (h : Ordr w [T] (.slice (some ⟨gb, go, none⟩) n c) l) (ha : l[k]? = some a) (hb : l[k + 1]? = some b)
    (hs : Sit W w B1 B2 S T Ls [T] (putsF (fun _ => none) l) (putsG (fun _ => none) l) (fun _ => none) (fun _ => none) 30 0 bad worse) (hd : ((a.1 != b.1) || (a.2.1 % 4 != b.2.1 % 4)) = true) (hg : B2 < gb ∧ gb ∉ Ls) :
    OrdP W (setU (setU w gb (go + k * 3) b) gb (go + (k + 1) * 3) a) B1 B2 S T Ls (.slice (some ⟨gb, go, none⟩) n c) l bad worse := by
  have hne : a.1 ≠ b.1 ∨ a.2.1 % 4 ≠ b.2.1 % 4 := by
    simp only [Bool.or_eq_true, bne_iff_ne] at hd
    exact hd
  have ho : Only [gb] w (setU (setU w gb (go + k * 3) b) gb (go + (k + 1) * 3) a) := setU_only (setU_only (Only.refl _ w) (.inl (by simp))) (.inl (by simp))
  have hT := (h.2 _ _ _ rfl).1
  exact ⟨swapL l k a b, h.swap ha hb, putsF_swap _ ha hb hne, putsG_swap _ ha hb hne, swapL_length _ _ _ _,
    ⟨hs.ss.only ho (fun y hy e => hg.2 (by rw [List.mem_singleton.1 e] at hy; exact hy)), hs.st.only ho (fun y hy e => hT (by rw [List.mem_singleton.1 e] at hy; exact hy)), hs.ks, hs.kt, hs.d, hs.a1.only ho (by have := hs.b2; simp; omega), hs.a2.only ho (by simp; omega), hs.b1, hs.b2, hs.o.trans2 ho (fun x hx => .inr (by rw [List.mem_singleton.1 hx]; have := hs.b1; have := hs.b2; omega))⟩⟩
theorem OrdP.drew {W w : World} {B1 B2 S T : Nat} {Ls : List Nat} {sv : Value} {l : List (Bool × Int × Int)} {bad : SV} {worse : PV} (h : OrdP W w B1 B2 S T Ls sv l bad worse) : OrdP W w.drew B1 B2 S T Ls sv l bad worse := by
  obtain ⟨ord, h1, h2, h3, h4, h5⟩ := h
  exact ⟨ord, h1.only (Only.refl _ _).drew, h2, h3, h4, h5.only (Only.refl _ _).drew⟩
theorem bad_no (x : SV) : okS ⟨x.pr, x.fl, x.lv, x.id, 0, x.pb, x.rf, x.wd, x.ht⟩ = false := by
  unfold okS; simp only [show inB 0 4 16 = false by decide]; simp
theorem worse_no (x : PV) : okP ⟨x.id, x.sps, x.cab, 0, x.r1, x.qp, x.qs, x.ch, x.db, x.nt⟩ = false := by
  unfold okP; simp only [show inB 0 1 32 = false by decide]; simp
end Go.Proofs.Ytkcjehajmofhfaa

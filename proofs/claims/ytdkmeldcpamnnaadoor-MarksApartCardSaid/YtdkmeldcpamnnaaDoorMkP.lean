/- The package's functions: what each answers, wherever its two variables lie as the program's text lays them. -/
import Derived.Test.YtdkmeldcpamnnaaDoorMpD
import Derived.Test.YtdkmeldcpamnnaaDoorMpH
namespace Go.Proofs.YtdkmeldcpamnnaaDoor
open Go.RowKit
set_option linter.unusedVariables false

set_option maxHeartbeats 1000000 in
theorem list_any (m : Bool) (w : World) :
    Calls Tryd.prog 47 #[kindV m] w fun e w' => e = .returned (.func (.func 55) #[] #[.pointer (some ⟨w.heap.size, 0, none⟩)]) ∧ KAt w' w.heap.size m ∧ Only [] w w' := by
  have hmf : ∀ (fn : Fn) (first cap : Array Value) (w : World), (Instr.makeFunc fn first cap).run Tryd.prog w = .ok (.func fn first cap) w := fun _ _ _ _ => rfl
  have KN := hid (kat_new w m 86)
  cases m
  all_goals
    simp only [kindV, kindC] at KN ⊢
    go_enter Tryd.func47, Tryd.ntmps47
    go_wp2_with fail
    go_ret
    exact ⟨rfl, KN.out⟩

/-- What Mods and Marks hand back, and what lies behind them. -/
def ReadPost (m : Bool) (b : Nat) (s : ByteArray) (pos : Nat) (w : World) (e : Ending) (w' : World) : Prop :=
  ∃ sv, e = .returned (.tuple #[sv, .int .i64 (readI m s pos).2.1]) ∧ HoldsM w' sv (readI m s pos).1 ∧ Rd w' b s (readI m s pos).2.2 ∧ Only [b] w w' ∧ FreshM w sv (readI m s pos).1
theorem readF_bad {m : Bool} {s : ByteArray} {k q : Nat} (h : (readF m s k q).2.1 ≠ 0) : (readF m s k q).1 = [] := by
  rw [← joinT_readF m s k q] at h ⊢
  unfold joinT at h ⊢
  split
  · rfl
  · rename_i c
    rw [if_neg c] at h
    exact absurd rfl h
set_option maxHeartbeats 4000000 in
theorem read9_any (m : Bool) (b kb : Nat) (s : ByteArray) (pos : Nat) (w : World) (h : Rd w b s pos) (hK : KAt w kb m) (hkb : kb ≠ b) :
    Calls Tryd.prog 46 #[.pointer (some ⟨b, 0, none⟩), .func (.func 55) #[] #[.pointer (some ⟨kb, 0, none⟩)]] w (ReadPost m b s pos w) := by
  have H := hid h
  have K := hid hK
  have CP := hid (copy_any b s pos w h)
  have LT := hid hK.lt
  have BT := hid h.lt
  have L1 := hid (fun (b : Nat) (w : World) (h : Rd w b s pos) (hK : KAt w kb m) (hkb : kb ≠ b) => list1_any m b kb s pos w h hK hkb)
  have R1 := hid (show readI m s pos = ((readF m s 66 pos).1, (readF m s 66 pos).2.1, if (readF m s 66 pos).2.1 = 0 then (readF m s 66 pos).2.2 else pos) from rfl)
  have BAD := hid (fun h => readF_bad (m := m) (s := s) (k := 66) (q := pos) h)
  unfold ReadPost
  unfold ListPost at L1
  rw [R1.out]
  clear R1
  generalize readF m s 66 pos = r at *
  obtain ⟨l, er, q⟩ := r
  dsimp only at *
  clear h hK
  go_enter Tryd.func46, Tryd.ntmps46
  go_wp2_with fail
  refine CP.out.mono ?_
  rintro e w1 ⟨rfl, hR1, hO1⟩
  have R1 := hid hR1
  have O1 := hid hO1
  clear hR1 hO1 CP
  go_wp2_with fail
  refine (L1.out w.heap.size w1 R1.out (K.out.only O1.out (by simp)) (by have := LT.out; omega)).mono ?_
  rintro e w2 ⟨sv, rfl, _, _, hO2, _⟩
  have O2 := hid ((O1.out.mono (T := []) (by simp)).trans2 hO2 (fun x hx => .inr (by rw [List.mem_singleton.1 hx]; exact Nat.le_refl _)))
  clear hO2
  by_cases he : er = 0
  · subst he
    go_wp2_with fail
    refine (L1.out b w2 (H.out.only O2.out (by simp)) (K.out.only O2.out (by simp)) hkb).mono ?_
    rintro e w3 ⟨sv3, rfl, hH3, ⟨q3, hR3, hq3⟩, hO3, hf3⟩
    have H3 := hid hH3
    have R3 := hid (hq3 (by first | trivial | rfl) ▸ hR3)
    have O3 := hid ((O2.out.mono (T := [b]) (by simp)).trans hO3)
    have F3 := hid (freshM_own (w := w) (sv := sv3) (l := l) (fun g hg => by have := hf3 g hg; have := O2.out.size; omega))
    clear hH3 hR3 hO3 hf3 L1 hq3
    go_wp2_with fail
    go_ret2
    exact ⟨sv3, rfl, H3.out, R3.out, O3.out, F3.out⟩
  · have B0 := BAD.out he
    have E0 := hid he
    clear BAD L1
    subst B0
    go_wp2_with fail
    go_ret2
    exact ⟨_, rfl, holdsM_none _, H.out.only O2.out (by simp), O2.out.mono (by simp), freshM_nil _⟩
set_option maxHeartbeats 400000 in
theorem read9_nil (w : World) (f : Value) : Calls Tryd.prog 46 #[.pointer none, f] w fun e w' => (∃ sv, e = .returned (.tuple #[sv, .int .i64 1])) ∧ Only [] w w' := by
  go_enter Tryd.func46, Tryd.ntmps46
  go_wp2_with fail
  go_ret2
  exact ⟨⟨_, rfl⟩, Only.refl _ _⟩
theorem Vars.not_rd {w : World} (h : Vars w) {b : Nat} {s : ByteArray} {pos : Nat} (hr : Rd w b s pos) (m : Bool) : kindG m ≠ b := fun e => by
  have := h.first m
  rw [e, hr.hs] at this
  cases this

set_option maxHeartbeats 1000000 in
theorem checkmods_any (a : Value) (l : List (Int × Int × Int)) (w : World) (hV : Vars w) (ha : HoldsM w a l) (hk : OksM l) : Calls Tryd.prog 37 #[a] w fun e w' => e = .returned (.int .i64 (checkI false l)) ∧ Only [] w w' := by
  have CK := hid (check9_any false a l w ha hk)
  obtain ⟨⟨k0, k1, k2, k3⟩, k4, k5, k6, k7⟩ := (hV.kat false).k0
  simp only [kindG] at k0 k1 k2 k3 k4 k5 k6 k7
  simp only [kindV, kindC] at CK
  obtain ⟨a, c, rfl, _⟩ := ha
  clear hV
  go_enter Tryd.func37, Tryd.ntmps37
  go_wp2_with fail
  refine CK.out.mono ?_
  rintro e w1 ⟨rfl, hO⟩
  clear k0 k1 k2 k3 k4 k5 k6 k7
  go_wp2_with fail
  go_ret
  exact ⟨rfl, hO⟩
set_option maxHeartbeats 1000000 in
theorem checkmarks_any (a : Value) (l : List (Int × Int × Int)) (w : World) (hV : Vars w) (ha : HoldsM w a l) (hk : OksM l) : Calls Tryd.prog 36 #[a] w fun e w' => e = .returned (.int .i64 (checkI true l)) ∧ Only [] w w' := by
  have CK := hid (check9_any true a l w ha hk)
  obtain ⟨⟨k0, k1, k2, k3⟩, k4, k5, k6, k7⟩ := (hV.kat true).k1
  simp only [kindG] at k0 k1 k2 k3 k4 k5 k6 k7
  simp only [kindV, kindC] at CK
  obtain ⟨a, c, rfl, _⟩ := ha
  clear hV
  go_enter Tryd.func36, Tryd.ntmps36
  go_wp2_with fail
  refine CK.out.mono ?_
  rintro e w1 ⟨rfl, hO⟩
  clear k0 k1 k2 k3 k4 k5 k6 k7
  go_wp2_with fail
  go_ret
  exact ⟨rfl, hO⟩
set_option maxHeartbeats 1000000 in
theorem putmods_any (b : Nat) (sv : Value) (L : List Bool) (a : Value) (l : List (Int × Int × Int)) (w : World) (hV : Vars w) (h : Wr w b sv L) (ha : HoldsM w a l) (hk : OksM l) (hd : Aside a l b sv) (hL : L.length ≤ 1000000) : Calls Tryd.prog 28 #[.pointer (some ⟨b, 0, none⟩), a] w fun e w' => e = .returned (.int .i64 (putI false L l).1) ∧ ∃ sv', PutLeft w w' b sv sv' (putI false L l).2 := by
  have CK := hid (put9_any false b sv L a l w h ha hk hd hL)
  obtain ⟨⟨k0, k1, k2, k3⟩, k4, k5, k6, k7⟩ := (hV.kat false).k0
  simp only [kindG] at k0 k1 k2 k3 k4 k5 k6 k7
  simp only [kindV, kindC] at CK
  obtain ⟨a, c, rfl, _⟩ := ha
  clear hV h hd
  generalize putI false L l = r at *
  obtain ⟨k, B⟩ := r
  go_enter Tryd.func28, Tryd.ntmps28
  go_wp2_with fail
  refine CK.out.mono ?_
  rintro e w1 ⟨rfl, sv', hO⟩
  clear k0 k1 k2 k3 k4 k5 k6 k7
  go_wp2_with fail
  go_ret
  exact ⟨rfl, sv', hO⟩
set_option maxHeartbeats 1000000 in
theorem putmarks_any (b : Nat) (sv : Value) (L : List Bool) (a : Value) (l : List (Int × Int × Int)) (w : World) (hV : Vars w) (h : Wr w b sv L) (ha : HoldsM w a l) (hk : OksM l) (hd : Aside a l b sv) (hL : L.length ≤ 1000000) : Calls Tryd.prog 29 #[.pointer (some ⟨b, 0, none⟩), a] w fun e w' => e = .returned (.int .i64 (putI true L l).1) ∧ ∃ sv', PutLeft w w' b sv sv' (putI true L l).2 := by
  have CK := hid (put9_any true b sv L a l w h ha hk hd hL)
  obtain ⟨⟨k0, k1, k2, k3⟩, k4, k5, k6, k7⟩ := (hV.kat true).k1
  simp only [kindG] at k0 k1 k2 k3 k4 k5 k6 k7
  simp only [kindV, kindC] at CK
  obtain ⟨a, c, rfl, _⟩ := ha
  clear hV h hd
  generalize putI true L l = r at *
  obtain ⟨k, B⟩ := r
  go_enter Tryd.func29, Tryd.ntmps29
  go_wp2_with fail
  refine CK.out.mono ?_
  rintro e w1 ⟨rfl, sv', hO⟩
  clear k0 k1 k2 k3 k4 k5 k6 k7
  go_wp2_with fail
  go_ret
  exact ⟨rfl, sv', hO⟩
set_option maxHeartbeats 1000000 in
theorem mods_post (b : Nat) (s : ByteArray) (pos : Nat) (w : World) (hV : Vars w) (h : Rd w b s pos) : Calls Tryd.prog 26 #[.pointer (some ⟨b, 0, none⟩)] w (ReadPost false b s pos w) := by
  have LA := hid (list_any false w)
  have RA := hid (fun w' hK (hO : Only [] w w') => read9_any false b w.heap.size s pos w' (h.only hO (by simp)) hK (by have := h.lt; omega))
  unfold ReadPost at RA ⊢
  obtain ⟨⟨k0, k1, k2, k3⟩, k4, k5, k6, k7⟩ := (hV.kat false).k0
  simp only [kindG] at k0 k1 k2 k3 k4 k5 k6 k7
  simp only [kindV, kindC] at LA
  clear hV h
  generalize readI false s pos = r at *
  obtain ⟨l, er, q⟩ := r
  dsimp only at *
  go_enter Tryd.func26, Tryd.ntmps26
  go_wp2_with fail
  refine LA.out.mono ?_
  rintro e w1 ⟨rfl, hK, hO⟩
  have RB := hid (RA.out w1 hK hO)
  have O1 := hid hO
  clear k0 k1 k2 k3 k4 k5 k6 k7 hK hO RA LA
  go_wp2_with fail
  refine RB.out.mono ?_
  rintro e w2 ⟨sv, rfl, h1, h2, h3, h4⟩
  have F := hid (show HoldsM w2 sv l ∧ Rd w2 b s q ∧ Only [b] w w2 ∧ FreshM w sv l from ⟨h1, h2, (O1.out.mono (by simp)).trans h3, fun ad n c e hl => Nat.le_trans O1.out.size (h4 ad n c e hl)⟩)
  clear h1 h2 h3 h4 RB
  go_wp2_with fail
  go_ret2
  exact ⟨sv, rfl, F.out⟩
set_option maxHeartbeats 1000000 in
theorem marks_post (b : Nat) (s : ByteArray) (pos : Nat) (w : World) (hV : Vars w) (h : Rd w b s pos) : Calls Tryd.prog 27 #[.pointer (some ⟨b, 0, none⟩)] w (ReadPost true b s pos w) := by
  have LA := hid (list_any true w)
  have RA := hid (fun w' hK (hO : Only [] w w') => read9_any true b w.heap.size s pos w' (h.only hO (by simp)) hK (by have := h.lt; omega))
  unfold ReadPost at RA ⊢
  obtain ⟨⟨k0, k1, k2, k3⟩, k4, k5, k6, k7⟩ := (hV.kat true).k1
  simp only [kindG] at k0 k1 k2 k3 k4 k5 k6 k7
  simp only [kindV, kindC] at LA
  clear hV h
  generalize readI true s pos = r at *
  obtain ⟨l, er, q⟩ := r
  dsimp only at *
  go_enter Tryd.func27, Tryd.ntmps27
  go_wp2_with fail
  refine LA.out.mono ?_
  rintro e w1 ⟨rfl, hK, hO⟩
  have RB := hid (RA.out w1 hK hO)
  have O1 := hid hO
  clear k0 k1 k2 k3 k4 k5 k6 k7 hK hO RA LA
  go_wp2_with fail
  refine RB.out.mono ?_
  rintro e w2 ⟨sv, rfl, h1, h2, h3, h4⟩
  have F := hid (show HoldsM w2 sv l ∧ Rd w2 b s q ∧ Only [b] w w2 ∧ FreshM w sv l from ⟨h1, h2, (O1.out.mono (by simp)).trans h3, fun ad n c e hl => Nat.le_trans O1.out.size (h4 ad n c e hl)⟩)
  clear h1 h2 h3 h4 RB
  go_wp2_with fail
  go_ret2
  exact ⟨sv, rfl, F.out⟩
theorem mods_any (b : Nat) (s : ByteArray) (pos : Nat) (w : World) (hV : Vars w) (h : Rd w b s pos) (hz : s.size ≤ 100000) : Calls Tryd.prog 26 #[.pointer (some ⟨b, 0, none⟩)] w fun e w' => ∃ sv, e = .returned (.tuple #[sv, .int .i64 (readI false s pos).2.1]) ∧ HoldsM w' sv (readI false s pos).1 ∧ Rd w' b s (readI false s pos).2.2 ∧ Only [b] w w' ∧ FreshM w sv (readI false s pos).1 := mods_post b s pos w hV h
theorem marks_any (b : Nat) (s : ByteArray) (pos : Nat) (w : World) (hV : Vars w) (h : Rd w b s pos) (hz : s.size ≤ 100000) : Calls Tryd.prog 27 #[.pointer (some ⟨b, 0, none⟩)] w fun e w' => ∃ sv, e = .returned (.tuple #[sv, .int .i64 (readI true s pos).2.1]) ∧ HoldsM w' sv (readI true s pos).1 ∧ Rd w' b s (readI true s pos).2.2 ∧ Only [b] w w' ∧ FreshM w sv (readI true s pos).1 := marks_post b s pos w hV h
set_option maxHeartbeats 1000000 in
theorem mods_nil (w : World) (hV : Vars w) : Calls Tryd.prog 26 #[.pointer none] w fun e w' => (∃ sv, e = .returned (.tuple #[sv, .int .i64 1])) ∧ Only [] w w' := by
  have LA := hid (list_any false w)
  obtain ⟨⟨k0, k1, k2, k3⟩, k4, k5, k6, k7⟩ := (hV.kat false).k0
  simp only [kindG] at k0 k1 k2 k3 k4 k5 k6 k7
  simp only [kindV, kindC] at LA
  clear hV
  go_enter Tryd.func26, Tryd.ntmps26
  go_wp2_with fail
  refine LA.out.mono ?_
  rintro e w1 ⟨rfl, hK, hO⟩
  clear k0 k1 k2 k3 k4 k5 k6 k7 hK
  go_wp2_with fail
  refine (read9_nil _ _).mono ?_
  rintro e w2 ⟨⟨sv, rfl⟩, hO2⟩
  go_wp2_with fail
  go_ret2
  exact ⟨⟨_, rfl⟩, hO.trans hO2⟩
set_option maxHeartbeats 1000000 in
theorem marks_nil (w : World) (hV : Vars w) : Calls Tryd.prog 27 #[.pointer none] w fun e w' => (∃ sv, e = .returned (.tuple #[sv, .int .i64 1])) ∧ Only [] w w' := by
  have LA := hid (list_any true w)
  obtain ⟨⟨k0, k1, k2, k3⟩, k4, k5, k6, k7⟩ := (hV.kat true).k1
  simp only [kindG] at k0 k1 k2 k3 k4 k5 k6 k7
  simp only [kindV, kindC] at LA
  clear hV
  go_enter Tryd.func27, Tryd.ntmps27
  go_wp2_with fail
  refine LA.out.mono ?_
  rintro e w1 ⟨rfl, hK, hO⟩
  clear k0 k1 k2 k3 k4 k5 k6 k7 hK
  go_wp2_with fail
  refine (read9_nil _ _).mono ?_
  rintro e w2 ⟨⟨sv, rfl⟩, hO2⟩
  go_wp2_with fail
  go_ret2
  exact ⟨⟨_, rfl⟩, hO.trans hO2⟩
set_option maxHeartbeats 400000 in
theorem put9_nil (m : Bool) (w : World) : Calls Tryd.prog 48 #[kindV m, .pointer none, .slice none 0 0] w fun e w' => e = .returned (.int .i64 1) ∧ Only [] w w' := by
  cases m
  all_goals
    simp only [kindV, kindC]
    go_enter Tryd.func48, Tryd.ntmps48
    go_wp2_with fail
    go_ret
    exact ⟨rfl, (Only.refl _ _).alloc _⟩
set_option maxHeartbeats 1000000 in
theorem putmods_nil (w : World) (hV : Vars w) : Calls Tryd.prog 28 #[.pointer none, .slice none 0 0] w fun e w' => e = .returned (.int .i64 1) ∧ Only [] w w' := by
  have CK := hid (put9_nil false w)
  obtain ⟨⟨k0, k1, k2, k3⟩, k4, k5, k6, k7⟩ := (hV.kat false).k0
  simp only [kindG] at k0 k1 k2 k3 k4 k5 k6 k7
  simp only [kindV, kindC] at CK
  clear hV
  go_enter Tryd.func28, Tryd.ntmps28
  go_wp2_with fail
  refine CK.out.mono ?_
  rintro e w1 ⟨rfl, hO⟩
  clear k0 k1 k2 k3 k4 k5 k6 k7
  go_wp2_with fail
  go_ret
  exact ⟨rfl, hO⟩
set_option maxHeartbeats 1000000 in
theorem putmarks_nil (w : World) (hV : Vars w) : Calls Tryd.prog 29 #[.pointer none, .slice none 0 0] w fun e w' => e = .returned (.int .i64 1) ∧ Only [] w w' := by
  have CK := hid (put9_nil true w)
  obtain ⟨⟨k0, k1, k2, k3⟩, k4, k5, k6, k7⟩ := (hV.kat true).k1
  simp only [kindG] at k0 k1 k2 k3 k4 k5 k6 k7
  simp only [kindV, kindC] at CK
  clear hV
  go_enter Tryd.func29, Tryd.ntmps29
  go_wp2_with fail
  refine CK.out.mono ?_
  rintro e w1 ⟨rfl, hO⟩
  clear k0 k1 k2 k3 k4 k5 k6 k7
  go_wp2_with fail
  go_ret
  exact ⟨rfl, hO⟩
end Go.Proofs.YtdkmeldcpamnnaaDoor

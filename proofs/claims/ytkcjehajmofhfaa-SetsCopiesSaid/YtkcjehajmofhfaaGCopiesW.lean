/- SetsCopies: the walk. -/
import Derived.Test.YtkcjehajmofhfaaSeA
import Derived.Deep.LoopGhost
import Derived.Deep.CutBlock
namespace Go.Proofs.Ytkcjehajmofhfaa
open Go.RowKit Go.Maps
set_option linter.unusedVariables false

/-- Two stores that hold the same. -/
def Twin (W w : World) (b1 b2 n : Nat) : Prop := ∃ L1 L2 f g, StL w b1 L1 f g n ∧ StL w b2 L2 f g n ∧ (∀ y, y ∈ L1 → W.heap.size ≤ y) ∧ (∀ y, y ∈ L2 → W.heap.size ≤ y) ∧ (∀ y, y ∈ L1 → y ∉ L2) ∧ Only [] W w
/-- .. and a third one, which has its own. -/
def Trio (W w : World) (b1 b2 b3 n m : Nat) : Prop := ∃ L1 L2 L3 f g f3 g3, StL w b1 L1 f g n ∧ StL w b2 L2 f g n ∧ StL w b3 L3 f3 g3 m ∧ (∀ y, y ∈ L1 → W.heap.size ≤ y) ∧ (∀ y, y ∈ L2 → W.heap.size ≤ y) ∧ (∀ y, y ∈ L3 → W.heap.size ≤ y) ∧ (∀ y, y ∈ L1 → y ∉ L2) ∧ (∀ y, y ∈ L1 → y ∉ L3) ∧ (∀ y, y ∈ L2 → y ∉ L3) ∧ Only [] W w
theorem Twin.mono {W w : World} {b1 b2 n n' : Nat} (h : Twin W w b1 b2 n) (hn : n ≤ n') : Twin W w b1 b2 n' := by
  obtain ⟨L1, L2, f, g, s1, s2, r⟩ := h; exact ⟨L1, L2, f, g, s1.mono hn, s2.mono hn, r⟩
theorem Trio.twin {W w : World} {b1 b2 b3 n m : Nat} (h : Trio W w b1 b2 b3 n m) : Twin W w b1 b2 n := by
  obtain ⟨L1, L2, L3, f, g, f3, g3, s1, s2, _, k1, k2, _, d, _, _, o⟩ := h; exact ⟨L1, L2, f, g, s1, s2, k1, k2, d, o⟩
/-- A list that grew by new blocks is still apart from another one. -/
theorem apart_grown {w : World} {L L' M : List Nat} (d : ∀ y, y ∈ L → y ∉ M) (hl : ∀ y, y ∈ L' → y ∈ L ∨ w.heap.size ≤ y) (hM : ∀ y, y ∈ M → y < w.heap.size) : ∀ y, y ∈ L' → y ∉ M := fun y hy hm => by
  rcases hl y hy with h | h
  · exact d y h hm
  · have := hM y hm; omega
theorem apart_symm {L M : List Nat} (d : ∀ y, y ∈ L → y ∉ M) : ∀ y, y ∈ M → y ∉ L := fun y hm hl => d y hl hm

set_option maxRecDepth 100000 in
set_option maxHeartbeats 16000000 in
theorem setsCopies_walk (W : World) (vl va vb : Value) (l a b : List (Bool × Int × Int)) (hl : HoldsU W vl l) (ha : HoldsU W va a) (hb : HoldsU W vb b) :
    Calls Try.prog 7 #[vl, va, vb] W fun e w' => e = .returned (.bool true) ∧ Only [] W w' := by
  have HL := hid hl
  have HA := hid ha
  have HB := hid hb
  obtain ⟨al, cl, rfl, _⟩ := hl
  obtain ⟨aa, ca, rfl, _⟩ := ha
  obtain ⟨ab, cb, rfl, _⟩ := hb
  go_enter Try.func7, Try.ntmps7
  go_wp2_with fail
  refine (new_any _).mono ?_
  rintro e w1 ⟨rfl, s1, o1⟩
  obtain ⟨S, hS⟩ : ∃ S, S = W.heap.size := ⟨_, rfl⟩
  rw [← hS] at s1 ⊢
  have S1 := hid s1
  have O1 := hid o1
  have HS := hid hS
  clear s1 o1 hS
  go_wp2_with fail
  refine (new_any _).mono ?_
  rintro e w2 ⟨rfl, s2, o2⟩
  obtain ⟨T, hT⟩ : ∃ T, T = w1.heap.size := ⟨_, rfl⟩
  rw [← hT] at s2 ⊢
  have ST : S < T := by have := S1.out.lt S (by simp); omega
  have X0 := hid (show Twin W w2 S T 0 from ⟨[S], [T], _, _, S1.out.only o2 (by simp), s2, fun y hy => by rw [List.mem_singleton.1 hy, HS.out]; exact Nat.le_refl _, fun y hy => by rw [List.mem_singleton.1 hy, hT]; exact O1.out.size, fun y hy => by rw [List.mem_singleton.1 hy]; simp; omega, O1.out.trans o2⟩)
  clear s2 o2 hT ST S1 O1 HS
  go_upto_block 0 with fail
  go_cut [9] from 25 to 46 (fun _ wx => Twin W wx S T 20)
  case first =>
    obtain ⟨N9, hN9⟩ : ∃ N, N = min l.length 20 := ⟨_, rfl⟩
    have KN9 := hid hN9
    clear hN9
    go_wp2_with fail
    go_loopg [9] N9 (fun g t wr => ∃ j : Nat, j + g = N9 ∧ t = .int .i64 j ∧ Twin W wr S T (0 + j))
    case atStart => exact ⟨0, by omega, rfl, X0.out⟩
    case round =>
      obtain ⟨j, hj, rfl, hT⟩ := hrel
      have XJ := hid hT
      have BN := KN9.out
      clear hT
      by_cases hg : gk = 0
      · have jb : (j : Int) ≤ 20 := by omega
        rcases Nat.lt_or_ge j l.length with hlt | hge
        · have i1 : (j : Int) < (l.length : Int) := by omega
          have i2 : ¬ (j : Int) < 20 := by omega
          clear hj hg hlt
          go_wp2_with fail
          go_meet
          exact XJ.out.mono (by omega)
        · have i1 : ¬ (j : Int) < (l.length : Int) := by omega
          clear hj hg hge
          go_wp2_with fail
          go_meet
          exact XJ.out.mono (by omega)
      · have i1 : (j : Int) < (l.length : Int) := by omega
        have i2 : (j : Int) < 20 := by omega
        have i0 : (0 : Int) ≤ (j : Int) := by omega
        obtain ⟨gg, rfl⟩ : ∃ gg, gk = gg + 1 := ⟨gk - 1, by omega⟩
        obtain ⟨x, X⟩ : ∃ x, l[j]? = some x := ⟨_, List.getElem?_eq_getElem (by omega : j < l.length)⟩
        obtain ⟨xb, xo, rfl, hx⟩ := HL.out.at X
        have HX := hid hx
        have JN := hid (show j + 1 + gg = N9 ∧ j < 20 by omega)
        clear hj hg X hx
        clear BN
        obtain ⟨L1, L2, f, g, s1, s2, k1, k2, kd, o⟩ := XJ.out
        obtain ⟨x0, x1, x2⟩ := HX.out.only o (by simp)
        have Z := hid (And.intro s1 (And.intro s2 (And.intro k1 (And.intro k2 (And.intro kd o)))))
        clear s1 s2 k1 k2 kd o XJ
        go_wp2_with fail
        refine (lput_any Z.out.1 x (by have := JN.out; unfold maxLen; omega)).mono ?_
        rintro e wa ⟨rfl, L1', sa, oa, la⟩
        obtain ⟨s1, s2, k1, k2, kd, o⟩ := Z.out
        obtain ⟨ob, kb⟩ := own_step o k1 oa la
        clear x0 x1 x2
        obtain ⟨x0, x1, x2⟩ := HX.out.only ob (by simp)
        have Y := hid (And.intro sa (And.intro (s2.only oa (apart_symm kd)) (And.intro kb (And.intro k2 (And.intro (apart_grown kd la s2.lt) ob)))))
        clear s1 s2 k1 k2 kd o ob kb sa oa la Z
        go_wp2_with fail
        refine (lput_any Y.out.2.1 x (by have := JN.out; unfold maxLen; omega)).mono ?_
        rintro e wb ⟨rfl, L2', sb, oc, lb⟩
        obtain ⟨s1, s2, k1, k2, kd, o⟩ := Y.out
        obtain ⟨od, kc⟩ := own_step o k2 oc lb
        have XN := hid (show Twin W wb S T (0 + (j + 1)) from ⟨L1', L2', _, _, s1.only oc kd, sb, k1, kc, apart_symm (apart_grown (apart_symm kd) lb s1.lt), od⟩)
        clear x0 x1 x2 s1 s2 k1 k2 kd o od kc sb oc lb Y
        go_wp2_with fail
        go_roundg gg
        case measure => omega
        case rel => exact ⟨j + 1, JN.out.1, by go_num, XN.out⟩
  case rest =>
  have X20 := hid hcut
  clear hcut X0
  obtain ⟨L1, L2, f, g, s1, s2, k1, k2, kd, o⟩ := X20.out
  have Z := hid (And.intro s1 (And.intro s2 (And.intro k1 (And.intro k2 (And.intro kd o)))))
  clear s1 s2 k1 k2 kd o
  go_wp2_with fail
  refine (copy_any Z.out.1).mono ?_
  rintro e w3 ⟨C, L3, rfl, s3, o3, k3⟩
  have Y0 := hid (show Trio W w3 S T C 20 (20 + 0) from by
    obtain ⟨s1, s2, k1, k2, kd, o⟩ := Z.out
    exact ⟨L1, L2, L3, f, g, f, g, s1.only o3 (by simp), s2.only o3 (by simp), s3, k1, k2, fun y hy => Nat.le_trans o.size (k3 y hy), kd, fun y hy hz => by have := s1.lt y hy; have := k3 y hz; omega, fun y hy hz => by have := s2.lt y hy; have := k3 y hz; omega, o.trans o3⟩)
  clear s3 o3 k3 Z X20
  go_upto_block 2 with fail
  go_cut [11] from 51 to 66 (fun _ wx => Twin W wx S T 20)
  case first =>
    obtain ⟨N11, hN11⟩ : ∃ N, N = min b.length 20 := ⟨_, rfl⟩
    have KN11 := hid hN11
    clear hN11
    go_wp2_with fail
    go_loopg [11] N11 (fun g t wr => ∃ j : Nat, j + g = N11 ∧ t = .int .i64 j ∧ Trio W wr S T C 20 (20 + j))
    case atStart => exact ⟨0, by omega, rfl, Y0.out⟩
    case round =>
      obtain ⟨j, hj, rfl, hT⟩ := hrel
      have XJ := hid hT
      have BN := KN11.out
      clear hT
      by_cases hg : gk = 0
      · have jb : (j : Int) ≤ 20 := by omega
        rcases Nat.lt_or_ge j b.length with hlt | hge
        · have i1 : (j : Int) < (b.length : Int) := by omega
          have i2 : ¬ (j : Int) < 20 := by omega
          clear hj hg hlt
          go_wp2_with fail
          go_meet
          exact XJ.out.twin
        · have i1 : ¬ (j : Int) < (b.length : Int) := by omega
          clear hj hg hge
          go_wp2_with fail
          go_meet
          exact XJ.out.twin
      · have i1 : (j : Int) < (b.length : Int) := by omega
        have i2 : (j : Int) < 20 := by omega
        have i0 : (0 : Int) ≤ (j : Int) := by omega
        obtain ⟨gg, rfl⟩ : ∃ gg, gk = gg + 1 := ⟨gk - 1, by omega⟩
        obtain ⟨x, X⟩ : ∃ x, b[j]? = some x := ⟨_, List.getElem?_eq_getElem (by omega : j < b.length)⟩
        obtain ⟨xb, xo, rfl, hx⟩ := HB.out.at X
        have HX := hid hx
        have JN := hid (show j + 1 + gg = N11 ∧ j < 20 by omega)
        clear hj hg X hx
        clear BN
        obtain ⟨L1, L2, L3, f, g, f3, g3, s1, s2, s3, k1, k2, k3, d1, d2, d3, o⟩ := XJ.out
        obtain ⟨x0, x1, x2⟩ := HX.out.only o (by simp)
        have Z := hid (And.intro s3 (And.intro s1 (And.intro s2 (And.intro k1 (And.intro k2 (And.intro k3 (And.intro d1 (And.intro d2 (And.intro d3 o)))))))))
        clear s1 s2 s3 k1 k2 k3 d1 d2 d3 o XJ
        go_wp2_with fail
        refine (lput_any Z.out.1 x (by have := JN.out; unfold maxLen; omega)).mono ?_
        rintro e wa ⟨rfl, L3', sa, oa, la⟩
        obtain ⟨s3, s1, s2, k1, k2, k3, d1, d2, d3, o⟩ := Z.out
        obtain ⟨ob, kb⟩ := own_step o k3 oa la
        have XN := hid (show Trio W wa S T C 20 (20 + (j + 1)) from ⟨L1, L2, L3', _, _, _, _, s1.only oa d2, s2.only oa d3, sa, k1, k2, kb, d1, apart_symm (apart_grown (apart_symm d2) la s1.lt), apart_symm (apart_grown (apart_symm d3) la s2.lt), ob⟩)
        clear x0 x1 x2 s1 s2 s3 k1 k2 k3 d1 d2 d3 o ob kb sa oa la Z
        go_wp2_with fail
        go_roundg gg
        case measure => omega
        case rel => exact ⟨j + 1, JN.out.1, by go_num, XN.out⟩
  case rest =>
  have X20 := hid hcut
  clear hcut Y0
  go_upto_block 4 with fail
  go_cut [12] from 67 to 88 (fun _ wx => Twin W wx S T 40)
  case first =>
    obtain ⟨N12, hN12⟩ : ∃ N, N = min a.length 20 := ⟨_, rfl⟩
    have KN12 := hid hN12
    clear hN12
    go_wp2_with fail
    go_loopg [12] N12 (fun g t wr => ∃ j : Nat, j + g = N12 ∧ t = .int .i64 j ∧ Twin W wr S T (20 + j))
    case atStart => exact ⟨0, by omega, rfl, X20.out⟩
    case round =>
      obtain ⟨j, hj, rfl, hT⟩ := hrel
      have XJ := hid hT
      have BN := KN12.out
      clear hT
      by_cases hg : gk = 0
      · have jb : (j : Int) ≤ 20 := by omega
        rcases Nat.lt_or_ge j a.length with hlt | hge
        · have i1 : (j : Int) < (a.length : Int) := by omega
          have i2 : ¬ (j : Int) < 20 := by omega
          clear hj hg hlt
          go_wp2_with fail
          go_meet
          exact XJ.out.mono (by omega)
        · have i1 : ¬ (j : Int) < (a.length : Int) := by omega
          clear hj hg hge
          go_wp2_with fail
          go_meet
          exact XJ.out.mono (by omega)
      · have i1 : (j : Int) < (a.length : Int) := by omega
        have i2 : (j : Int) < 20 := by omega
        have i0 : (0 : Int) ≤ (j : Int) := by omega
        obtain ⟨gg, rfl⟩ : ∃ gg, gk = gg + 1 := ⟨gk - 1, by omega⟩
        obtain ⟨x, X⟩ : ∃ x, a[j]? = some x := ⟨_, List.getElem?_eq_getElem (by omega : j < a.length)⟩
        obtain ⟨xb, xo, rfl, hx⟩ := HA.out.at X
        have HX := hid hx
        have JN := hid (show j + 1 + gg = N12 ∧ j < 20 by omega)
        clear hj hg X hx
        clear BN
        obtain ⟨L1, L2, f, g, s1, s2, k1, k2, kd, o⟩ := XJ.out
        obtain ⟨x0, x1, x2⟩ := HX.out.only o (by simp)
        have Z := hid (And.intro s1 (And.intro s2 (And.intro k1 (And.intro k2 (And.intro kd o)))))
        clear s1 s2 k1 k2 kd o XJ
        go_wp2_with fail
        refine (lput_any Z.out.1 x (by have := JN.out; unfold maxLen; omega)).mono ?_
        rintro e wa ⟨rfl, L1', sa, oa, la⟩
        obtain ⟨s1, s2, k1, k2, kd, o⟩ := Z.out
        obtain ⟨ob, kb⟩ := own_step o k1 oa la
        clear x0 x1 x2
        obtain ⟨x0, x1, x2⟩ := HX.out.only ob (by simp)
        have Y := hid (And.intro sa (And.intro (s2.only oa (apart_symm kd)) (And.intro kb (And.intro k2 (And.intro (apart_grown kd la s2.lt) ob)))))
        clear s1 s2 k1 k2 kd o ob kb sa oa la Z
        go_wp2_with fail
        refine (lput_any Y.out.2.1 x (by have := JN.out; unfold maxLen; omega)).mono ?_
        rintro e wb ⟨rfl, L2', sb, oc, lb⟩
        obtain ⟨s1, s2, k1, k2, kd, o⟩ := Y.out
        obtain ⟨od, kc⟩ := own_step o k2 oc lb
        have XN := hid (show Twin W wb S T (20 + (j + 1)) from ⟨L1', L2', _, _, s1.only oc kd, sb, k1, kc, apart_symm (apart_grown (apart_symm kd) lb s1.lt), od⟩)
        clear x0 x1 x2 s1 s2 k1 k2 kd o od kc sb oc lb Y
        go_wp2_with fail
        go_roundg gg
        case measure => omega
        case rel => exact ⟨j + 1, JN.out.1, by go_num, XN.out⟩
  case rest =>
  have X40 := hid hcut
  clear hcut X20
  go_upto_block 6 with fail
  go_cut [13, 14, 15, 16] from 89 to 106 (fun _ _ _ _ wx => Only [] W wx)
  case first =>
    go_wp2_with fail
    go_loopg [13] 4 (fun g t wr => ∃ j : Nat, j + g = 4 ∧ t = .int .i64 j ∧ Twin W wr S T 40)
    case atStart => exact ⟨0, by omega, rfl, X40.out⟩
    case round =>
      obtain ⟨j, hj, rfl, hT⟩ := hrel
      have XJ := hid hT
      clear hT
      by_cases hg : gk = 0
      · have i1 : ¬ (j : Int) < 4 := by omega
        clear hj hg
        go_wp2_with fail
        go_meet
        obtain ⟨_, _, _, _, _, _, _, _, _, o⟩ := XJ.out
        exact o
      · have i1 : (j : Int) < 4 := by omega
        obtain ⟨gg, rfl⟩ : ∃ gg, gk = gg + 1 := ⟨gk - 1, by omega⟩
        have JN := hid (show j + 1 + gg = 4 by omega)
        clear hj hg
        obtain ⟨L1, L2, f, g, s1, s2, k1, k2, kd, o⟩ := XJ.out
        obtain ⟨p, s, e0, hr⟩ : ∃ p s e0, getR f g j = (p, s, e0) := ⟨_, _, _, rfl⟩
        have HR := hid hr
        have Z := hid (And.intro s1 (And.intro s2 (And.intro k1 (And.intro k2 (And.intro kd o)))))
        clear s1 s2 k1 k2 kd o hr XJ
        go_wp2_with fail
        refine (get_any Z.out.2.1 j HR.out).mono ?_
        rintro e wa ⟨rfl, oa⟩
        have OA := hid oa
        clear oa
        go_wp2_with fail
        refine (has_any (Z.out.1.only ((OA.out.alloc _).alloc _) (by simp)) j p s e0 (r := true) (by rw [HR.out]; simp)).mono ?_
        rintro e wb ⟨rfl, ob⟩
        have OB := hid (((OA.out.alloc _).alloc _).trans ob)
        clear ob
        have XN := hid (show Twin W wb S T 40 from by
          obtain ⟨s1, s2, k1, k2, kd, o⟩ := Z.out
          exact ⟨L1, L2, f, g, s1.only OB.out (by simp), s2.only OB.out (by simp), k1, k2, kd, o.trans OB.out⟩)
        clear OA OB Z
        go_wp2_with fail
        go_roundg gg
        case measure => omega
        case rel => exact ⟨j + 1, JN.out, by go_num, XN.out⟩
  case rest =>
  have OF := hid hcut
  clear hcut X40
  go_wp2_with fail
  refine (awake_any _).mono ?_
  rintro e w9 ⟨rfl, o9⟩
  have O9 := hid (OF.out.trans o9)
  clear o9
  go_wp2_with fail
  go_ret
  exact ⟨rfl, O9.out⟩
end Go.Proofs.Ytkcjehajmofhfaa

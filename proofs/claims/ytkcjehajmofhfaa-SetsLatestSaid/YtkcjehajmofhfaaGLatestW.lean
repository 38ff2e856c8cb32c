/- SetsLatest: the walk. -/
import Derived.Test.YtkcjehajmofhfaaGLatestM
namespace Go.Proofs.Ytkcjehajmofhfaa
open Go.RowKit Go.Maps
set_option linter.unusedVariables false

theorem mod_k (n m : Int) (K : Nat) (w : World) (hm : 0 < m) (hm2 : m ≤ 100) (hK : n % m = K) : Calls Try.prog 21 #[.int .i64 n, .int .i64 m] w fun e w' => e = .returned (.int .i64 (K : Int)) ∧ w = w' := hK ▸ mod_any n m w hm hm2
theorem new_pat (w : World) (T : TypeId) : ∀ i, i < 4 → PAt (w.alloc (.cells #[.int .i64 0, .int .i64 0, .bool false, .int .i64 0, .int .i64 0, .int .i64 0, .int .i64 0, .int .i64 0, .bool false, .bool false, .int .i64 0, .int .i64 0, .bool false, .int .i64 0, .int .i64 0, .int .i64 0, .int .i64 0, .int .i64 0, .bool false, .bool false, .int .i64 0, .int .i64 0, .bool false, .int .i64 0, .int .i64 0, .int .i64 0, .int .i64 0, .int .i64 0, .bool false, .bool false, .int .i64 0, .int .i64 0, .bool false, .int .i64 0, .int .i64 0, .int .i64 0, .int .i64 0, .int .i64 0, .bool false, .bool false] T)) w.heap.size (i * 10) p0 := by
  intro i hi
  obtain rfl | rfl | rfl | rfl : i = 0 ∨ i = 1 ∨ i = 2 ∨ i = 3 := by omega
  all_goals exact ⟨by simp [p0], by simp [p0], by simp [p0], by simp [p0], by simp [p0], by simp [p0], by simp [p0], by simp [p0], by simp [p0], by simp [p0]⟩
theorem new_sat (w : World) (T : TypeId) : ∀ i, i < 4 → SAt (w.alloc (.cells #[.int .u8 0, .int .u8 0, .int .u8 0, .int .i64 0, .int .i64 0, .int .i64 0, .int .i64 0, .int .i64 0, .int .i64 0, .int .u8 0, .int .u8 0, .int .u8 0, .int .i64 0, .int .i64 0, .int .i64 0, .int .i64 0, .int .i64 0, .int .i64 0, .int .u8 0, .int .u8 0, .int .u8 0, .int .i64 0, .int .i64 0, .int .i64 0, .int .i64 0, .int .i64 0, .int .i64 0, .int .u8 0, .int .u8 0, .int .u8 0, .int .i64 0, .int .i64 0, .int .i64 0, .int .i64 0, .int .i64 0, .int .i64 0] T)) w.heap.size (i * 9) s0 := by
  intro i hi
  obtain rfl | rfl | rfl | rfl : i = 0 ∨ i = 1 ∨ i = 2 ∨ i = 3 := by omega
  all_goals exact ⟨by simp [s0], by simp [s0], by simp [s0], by simp [s0], by simp [s0], by simp [s0], by simp [s0], by simp [s0], by simp [s0]⟩
theorem new_bat (w : World) (T : TypeId) : ∀ i, i < 4 → (w.alloc (.cells #[.bool false, .bool false, .bool false, .bool false] T)).cell? ⟨w.heap.size, i, none⟩ = some (.bool (zb i)) := by
  intro i hi
  obtain rfl | rfl | rfl | rfl : i = 0 ∨ i = 1 ∨ i = 2 ∨ i = 3 := by omega
  all_goals simp [zb]
theorem new_frz (w : World) (cs : Array Value) (T : TypeId) (o : Nat) : (w.alloc (.cells cs T)).frozen? ⟨w.heap.size, o, none⟩ = false := by simp
theorem Mem.new {w u1 u2 u3 u4 : World} {T1 T2 T3 T4 : TypeId} (h1 : u1 = w.alloc (.cells #[.int .i64 0, .int .i64 0, .bool false, .int .i64 0, .int .i64 0, .int .i64 0, .int .i64 0, .int .i64 0, .bool false, .bool false, .int .i64 0, .int .i64 0, .bool false, .int .i64 0, .int .i64 0, .int .i64 0, .int .i64 0, .int .i64 0, .bool false, .bool false, .int .i64 0, .int .i64 0, .bool false, .int .i64 0, .int .i64 0, .int .i64 0, .int .i64 0, .int .i64 0, .bool false, .bool false, .int .i64 0, .int .i64 0, .bool false, .int .i64 0, .int .i64 0, .int .i64 0, .int .i64 0, .int .i64 0, .bool false, .bool false] T1)) (h2 : u2 = u1.alloc (.cells #[.int .u8 0, .int .u8 0, .int .u8 0, .int .i64 0, .int .i64 0, .int .i64 0, .int .i64 0, .int .i64 0, .int .i64 0, .int .u8 0, .int .u8 0, .int .u8 0, .int .i64 0, .int .i64 0, .int .i64 0, .int .i64 0, .int .i64 0, .int .i64 0, .int .u8 0, .int .u8 0, .int .u8 0, .int .i64 0, .int .i64 0, .int .i64 0, .int .i64 0, .int .i64 0, .int .i64 0, .int .u8 0, .int .u8 0, .int .u8 0, .int .i64 0, .int .i64 0, .int .i64 0, .int .i64 0, .int .i64 0, .int .i64 0] T2)) (h3 : u3 = u2.alloc (.cells #[.bool false, .bool false, .bool false, .bool false] T3)) (h4 : u4 = u3.alloc (.cells #[.bool false, .bool false, .bool false, .bool false] T4)) :
    Mem u4 w.heap.size u1.heap.size u2.heap.size u3.heap.size (fun _ => p0) (fun _ => s0) zb zb ∧ u1.heap.size = w.heap.size + 1 ∧ u2.heap.size = w.heap.size + 1 + 1 ∧ u3.heap.size = w.heap.size + 1 + 1 + 1 := by
  have z1 : u1.heap.size = w.heap.size + 1 := by rw [h1]; simp
  have z2 : u2.heap.size = w.heap.size + 1 + 1 := by rw [h2]; simp [z1]
  have z3 : u3.heap.size = w.heap.size + 1 + 1 + 1 := by rw [h3]; simp [z2]
  have z4 : u4.heap.size = w.heap.size + 1 + 1 + 1 + 1 := by rw [h4]; simp [z3]
  have o2 : Only [] u1 u2 := h2 ▸ (Only.refl [] u1).alloc _
  have o3 : Only [] u2 u3 := h3 ▸ (Only.refl [] u2).alloc _
  have o4 : Only [] u3 u4 := h4 ▸ (Only.refl [] u3).alloc _
  refine ⟨⟨fun i hi => (h1 ▸ new_pat w T1 i hi : PAt u1 _ _ _).only (o2.trans (o3.trans o4)) (by simp), fun i hi => (h2 ▸ new_sat u1 T2 i hi : SAt u2 _ _ _).only (o3.trans o4) (by simp), fun i hi => o4.cell (h3 ▸ new_bat u2 T3 i hi) (by simp), fun i hi => h4 ▸ new_bat u3 T4 i hi,
    fun o => ((o2.trans (o3.trans o4)).frozen (p := ⟨w.heap.size, o, none⟩) (by simp [z1]) (by simp)).trans (h1 ▸ new_frz w _ T1 o),
    fun o => ((o3.trans o4).frozen (p := ⟨u1.heap.size, o, none⟩) (by simp [z1, z2]) (by simp)).trans (h2 ▸ new_frz u1 _ T2 o),
    fun o => (o4.frozen (p := ⟨u2.heap.size, o, none⟩) (by simp [z2, z3]) (by simp)).trans (h3 ▸ new_frz u2 _ T3 o),
    fun o => h4 ▸ new_frz u3 _ T4 o, by omega, by omega, by omega, by omega, by omega⟩, z1, z2, z3⟩

theorem Lat.pps {W wa wb : World} {S A1 A2 A3 A4 n K : Nat} {L : List Nat} {f : Int → Option SV} {g : Int → Option PV} {P : Nat → PV} {Q : Nat → SV} {kn th : Nat → Bool} {i o : Int}
    (y : StL wa S L (putF f (true, i, o)) (putG g (true, i, o)) (n + 1) ∧ (∀ y, y ∈ L → W.heap.size ≤ y ∧ y ≠ A1 ∧ y ≠ A2 ∧ y ≠ A3 ∧ y ≠ A4) ∧ Mem wa A1 A2 A3 A4 P Q kn th ∧ Log f g P Q kn th ∧ W.heap.size ≤ A1 ∧ Only [] W wa)
    (mc : Mem wb A1 A2 A3 A4 P Q kn th) (ob : Only [] wa wb) (hK : i % 4 = (K : Int)) (K4 : K < 4) {wc : World} (hw : wc = (setP wb A1 (K * 10) (pK (i % 4) (o % 4))).setCell ⟨A3, K, none⟩ (.bool true)) : Lat W wc S A1 A2 A3 A4 (n + 1) := by
  obtain ⟨s, k, m, lg, la, ow⟩ := y
  subst hw
  obtain ⟨e1, e2, e3⟩ := mc.ne
  have oc : Only [A1, A3] wb ((setP wb A1 (K * 10) (pK (i % 4) (o % 4))).setCell ⟨A3, K, none⟩ (.bool true)) := (setP_only (Only.refl _ _) (.inl (by simp))).setCell (.inl (by simp)) _
  exact ⟨L, _, _, _, _, _, _, (s.only ob (by simp)).only oc (fun y hy => by have := k y hy; simp; omega), k, (mc.setP K4 _).setK K4, lg.pps hK, la, (ow.trans ob).trans2 oc (fun x hx => .inr (by simp at hx; omega))⟩
theorem Lat.sps {W wa wb : World} {S A1 A2 A3 A4 n K : Nat} {L : List Nat} {f : Int → Option SV} {g : Int → Option PV} {P : Nat → PV} {Q : Nat → SV} {kn th : Nat → Bool} {i o : Int}
    (y : StL wa S L (putF f (false, i, o)) (putG g (false, i, o)) (n + 1) ∧ (∀ y, y ∈ L → W.heap.size ≤ y ∧ y ≠ A1 ∧ y ≠ A2 ∧ y ≠ A3 ∧ y ≠ A4) ∧ Mem wa A1 A2 A3 A4 P Q kn th ∧ Log f g P Q kn th ∧ W.heap.size ≤ A1 ∧ Only [] W wa)
    (mc : Mem wb A1 A2 A3 A4 P Q kn th) (ob : Only [] wa wb) (hK : i % 4 = (K : Int)) (K4 : K < 4) {wc : World} (hw : wc = (setS wb A2 (K * 9) (sK (i % 4) (o % 17))).setCell ⟨A4, K, none⟩ (.bool true)) : Lat W wc S A1 A2 A3 A4 (n + 1) := by
  obtain ⟨s, k, m, lg, la, ow⟩ := y
  subst hw
  obtain ⟨e1, e2, e3⟩ := mc.ne
  have oc : Only [A2, A4] wb ((setS wb A2 (K * 9) (sK (i % 4) (o % 17))).setCell ⟨A4, K, none⟩ (.bool true)) := (setS_only (Only.refl _ _) (.inl (by simp))).setCell (.inl (by simp)) _
  exact ⟨L, _, _, _, _, _, _, (s.only ob (by simp)).only oc (fun y hy => by have := k y hy; simp; omega), k, (mc.setS K4 _).setT K4, lg.sps hK, la, (ow.trans ob).trans2 oc (fun x hx => .inr (by simp at hx; omega))⟩

theorem Lat.only {W w w' : World} {S A1 A2 A3 A4 n : Nat} (h : Lat W w S A1 A2 A3 A4 n) (k : Only [] w w') : Lat W w' S A1 A2 A3 A4 n := by
  obtain ⟨L, f, g, P, Q, kn, th, s, kl, m, lg, la, o⟩ := h
  exact ⟨L, f, g, P, Q, kn, th, s.only k (by simp), kl, m.only k (by simp) (by simp) (by simp) (by simp), lg, la, o.trans k⟩
set_option maxRecDepth 100000 in
set_option maxHeartbeats 16000000 in
theorem setsLatest_walk (W : World) (vl : Value) (l : List (Bool × Int × Int)) (hl : HoldsU W vl l) :
    Calls Try.prog 5 #[vl] W fun e w' => e = .returned (.bool true) ∧ Only [] W w' := by
  have HL := hid hl
  obtain ⟨al, cl, rfl, _⟩ := hl
  go_enter Try.func5, Try.ntmps5
  go_wp2_with fail
  refine (new_any _).mono ?_
  rintro e w1 ⟨rfl, s1, o1⟩
  obtain ⟨S, hS⟩ : ∃ S, S = W.heap.size := ⟨_, rfl⟩
  rw [← hS] at s1 ⊢
  have S1 := hid s1
  have O1 := hid o1
  have HS := hid hS
  clear s1 o1 hS
  go_upto_block 0 with fail
  generalize hw2 : (((w1.alloc _).alloc _).alloc _).alloc _ = w2
  obtain ⟨M2, z1, z2, z3⟩ := Mem.new (w := w1) rfl rfl rfl hw2.symm
  rw [z1, z2, z3] at M2
  have O2 := (show Only [] w1 w2 from hw2 ▸ ((((Only.refl [] w1).alloc _).alloc _).alloc _).alloc _)
  have SS := S1.out.lt S (by simp)
  have S2 := S1.out.only O2 (by simp)
  have LW := O1.out.size
  clear hw2 z1 z2 z3
  obtain ⟨A1, hA1⟩ : ∃ A1, A1 = w1.heap.size := ⟨_, rfl⟩
  rw [← hA1] at M2 SS LW ⊢
  obtain ⟨A2, hA2⟩ : ∃ A2, A2 = A1 + 1 := ⟨_, rfl⟩
  obtain ⟨A3, hA3⟩ : ∃ A3, A3 = A2 + 1 := ⟨_, rfl⟩
  obtain ⟨A4, hA4⟩ : ∃ A4, A4 = A3 + 1 := ⟨_, rfl⟩
  rw [← hA2, ← hA3, ← hA4] at M2
  have X0 := hid (show Lat W w2 S A1 A2 A3 A4 0 from ⟨[S], _, _, _, _, _, _, S2, fun y hy => by rw [List.mem_singleton.1 hy]; have := HS.out; omega, M2, Log.start, LW, O1.out.trans O2⟩)
  rw [← hA2, ← hA3, ← hA4]
  clear M2 O2 SS S2 LW hA1 hA2 hA3 hA4 S1 O1 HS
  go_cut [8, 9, 10] from 14 to 103 (fun _ _ _ wx => Only [] W wx)
  case first =>
    obtain ⟨NN, hN⟩ : ∃ N, N = min l.length 40 := ⟨_, rfl⟩
    have KN := hid hN
    clear hN
    go_wp2_with fail
    go_loopg [8] NN (fun g t wr => ∃ j : Nat, j + g = NN ∧ t = .int .i64 j ∧ Lat W wr S A1 A2 A3 A4 j)
    case atStart => exact ⟨0, by omega, rfl, X0.out⟩
    case round =>
      obtain ⟨j, hj, rfl, hT⟩ := hrel
      have XJ := hid hT
      have BN := KN.out
      clear hT
      by_cases hg : gk = 0
      · have jb : (j : Int) ≤ 40 := by omega
        rcases Nat.lt_or_ge j l.length with hlt | hge
        · have i1 : (j : Int) < (l.length : Int) := by omega
          have i2 : ¬ (j : Int) < 40 := by omega
          clear hj hg hlt
          go_wp2_with fail
          go_meet
          obtain ⟨_, _, _, _, _, _, _, _, _, _, _, _, o⟩ := XJ.out
          exact o
        · have i1 : ¬ (j : Int) < (l.length : Int) := by omega
          clear hj hg hge
          go_wp2_with fail
          go_meet
          obtain ⟨_, _, _, _, _, _, _, _, _, _, _, _, o⟩ := XJ.out
          exact o
      · have i1 : (j : Int) < (l.length : Int) := by omega
        have i2 : (j : Int) < 40 := by omega
        have i0 : (0 : Int) ≤ (j : Int) := by omega
        obtain ⟨gg, rfl⟩ : ∃ gg, gk = gg + 1 := ⟨gk - 1, by omega⟩
        obtain ⟨x, X⟩ : ∃ x, l[j]? = some x := ⟨_, List.getElem?_eq_getElem (by omega : j < l.length)⟩
        obtain ⟨xb, xo, rfl, hx⟩ := HL.out.at X
        have HX := hid hx
        have JN := hid (show j + 1 + gg = NN ∧ j < 40 by omega)
        clear hj hg X hx BN
        obtain ⟨L, f, g, P, Q, kn, th, s1, k1, m1, lg, la, o⟩ := XJ.out
        obtain ⟨x0, x1, x2⟩ := HX.out.only o (by simp)
        have Z := hid (And.intro s1 (And.intro k1 (And.intro m1 (And.intro lg (And.intro la o)))))
        clear s1 k1 m1 lg la o XJ
        go_wp2_with fail
        refine (lput_any Z.out.1 x (by have := JN.out; unfold maxLen; omega)).mono ?_
        rintro e wa ⟨rfl, L', sa, oa, ll⟩
        obtain ⟨s1, k1, m1, lg, la, o⟩ := Z.out
        have ne := m1.ne
        have l1 := m1.l1
        have l2 := m1.l2
        have l3 := m1.l3
        have l4 := m1.l4
        have ha1 := fun hy => (k1 A1 hy).2.1 rfl
        have ha2 := fun hy => (k1 A2 hy).2.2.1 rfl
        have ha3 := fun hy => (k1 A3 hy).2.2.2.1 rfl
        have ha4 := fun hy => (k1 A4 hy).2.2.2.2 rfl
        have mb := m1.only oa ha1 ha2 ha3 ha4
        obtain ⟨ob, kb⟩ := own_step o (fun y hy => (k1 y hy).1) oa ll
        have kc : ∀ y, y ∈ L' → W.heap.size ≤ y ∧ y ≠ A1 ∧ y ≠ A2 ∧ y ≠ A3 ∧ y ≠ A4 := fun y hy => by
          refine ⟨kb y hy, ?_⟩
          rcases ll y hy with h | h
          · exact (k1 y h).2
          · omega
        have Y := hid (And.intro sa (And.intro kc (And.intro mb (And.intro lg (And.intro la ob)))))
        clear s1 k1 m1 lg la o ne l1 l2 l3 l4 ha1 ha2 ha3 ha4 mb ob kb kc oa ll sa x0 x1 x2 Z
        obtain ⟨x0, x1, x2⟩ := HX.out.only Y.out.2.2.2.2.2 (by simp)
        obtain ⟨K, hK⟩ : ∃ K : Nat, x.2.1 % 4 = (K : Int) := ⟨(x.2.1 % 4).toNat, by omega⟩
        have HK := hid hK
        have K4 : K < 4 := by omega
        have KI : (K : Int) < 4 := by omega
        have K0 : (0 : Int) ≤ (K : Int) := by omega
        clear hK
        go_wp2_with fail
        refine (mod_k x.2.1 4 K _ (by decide) (by decide) HK.out).mono ?_
        rintro e w' ⟨rfl, rfl⟩
        go_upto_if 41 with (fail)
        go_cut [9] from 42 to 65 (fun _ wx => Lat W wx S A1 A2 A3 A4 (j + 1))
        case first =>
          obtain ⟨c, xi, xo2⟩ := x
          cases c with
          | true =>
            go_wp2_with fail
            refine (mod_any xo2 4 _ (by decide) (by decide)).mono ?_
            rintro e w' ⟨rfl, rfl⟩
            go_wp2_with fail
            refine (ppsk_any _ _ _).mono ?_
            rintro e wb ⟨rfl, ob⟩
            have OB := hid ob
            have MC := hid (Y.out.2.2.1.only ob (by simp) (by simp) (by simp) (by simp))
            clear ob
            go_wp2_with (refine wstore_p rfl _ _ rfl A1 (K * 10) (pK (K : Int) (xo2 % 4)) (P K) rfl rfl (MC.out.p K K4) MC.out.f1 ?_; intro wc hwc; have HWC := hid hwc; have md := (hwc ▸ MC.out.setP K4 _ : Mem wc A1 A2 A3 A4 _ _ _ _); have b0 := md.k K K4; have g3 := md.f3; clear md hwc)
            go_meet
            exact Lat.pps Y.out MC.out OB.out HK.out K4 (by rw [HK.out, ← HWC.out])
          | false =>
            go_wp2_with fail
            refine (mod_any xo2 17 _ (by decide) (by decide)).mono ?_
            rintro e w' ⟨rfl, rfl⟩
            go_wp2_with fail
            refine (spsk_any _ _ _).mono ?_
            rintro e wb ⟨rfl, ob⟩
            have OB := hid ob
            have MC := hid (Y.out.2.2.1.only ob (by simp) (by simp) (by simp) (by simp))
            clear ob
            go_wp2_with (refine wstore_s rfl _ _ rfl A2 (K * 9) (sK (K : Int) (xo2 % 17)) (Q K) rfl rfl (MC.out.q K K4) MC.out.f2 ?_; intro wc hwc; have HWC := hid hwc; have md := (hwc ▸ MC.out.setS K4 _ : Mem wc A1 A2 A3 A4 _ _ _ _); have b0 := md.t K K4; have g3 := md.f4; clear md hwc)
            go_meet
            exact Lat.sps Y.out MC.out OB.out HK.out K4 (by rw [HK.out, ← HWC.out])
        case rest =>
          have XN := hid hcut
          clear hcut Y HK K4 KI K0 x0 x1 x2 i1
          go_wp2_with fail
          go_loopg [10] 5 (fun g t wr => ∃ i : Nat, i + g = 5 ∧ t = .int .i64 i ∧ Only [] wc wr)
          case atStart => exact ⟨0, by omega, rfl, Only.refl _ _⟩
          case round =>
            obtain ⟨i, hi, rfl, hO⟩ := hrel
            have OR := hid hO
            by_cases hg : gk = 0
            · have i1 : ¬ (i : Int) < 5 := by omega
              clear hi hg hO
              go_wp2_with fail
              go_roundg gg
              case measure => omega
              case rel => exact ⟨j + 1, JN.out.1, by go_num, XN.out.only OR.out⟩
            · have i1 : (i : Int) < 5 := by omega
              have ii : (0 : Int) ≤ (i : Int) := by omega
              obtain ⟨g2, rfl⟩ : ∃ g2, gk = g2 + 1 := ⟨gk - 1, by omega⟩
              have IN := hid (show i + 1 + g2 = 5 by omega)
              clear hi hg
              obtain ⟨L, f, g, P, Q, kn, th, s, k, m, lg, la, o⟩ := XN.out
              have s3 := s.only hO (by simp)
              have mm := m.only hO (by simp) (by simp) (by simp) (by simp)
              clear s k m la o hO
              have S3 := hid s3
              have MM := hid mm
              have LG := hid lg
              clear s3 mm lg
              by_cases i4 : i < 4
              · have i3 : (i : Int) < 4 := by omega
                have ck := MM.out.k i i4
                cases hkn : kn i with
                | false =>
                  rw [hkn] at ck
                  have HR := hid (show getR f g i = (p0, s0, 7) from by
                    have e := LG.out.k i i4
                    rw [hkn] at e
                    unfold getR
                    rw [if_neg (by omega)]
                    cases hgi : g i with
                    | none => rfl
                    | some y => rw [hgi] at e; cases e)
                  clear hkn
                  go_wp2_with fail
                  refine (has_any S3.out i p0 s0 7 (r := true) (by rw [HR.out]; simp)).mono ?_
                  rintro e wd ⟨rfl, od⟩
                  have OD := hid (OR.out.trans od)
                  clear od
                  go_wp2_with fail
                  go_roundg g2
                  case measure => omega
                  case rel => exact ⟨i + 1, IN.out, by go_num, OD.out⟩
                | true =>
                  rw [hkn] at ck
                  obtain ⟨y, hy⟩ : ∃ y, g i = some y := by
                    have e := LG.out.k i i4
                    rw [hkn] at e
                    exact Option.isSome_iff_exists.1 e.symm
                  obtain ⟨hP, y0, y4⟩ := LG.out.p i i4 y hy
                  have pa := MM.out.p i i4
                  rw [hP] at pa
                  obtain ⟨M, hM⟩ : ∃ M : Nat, y.sps = (M : Int) := ⟨y.sps.toNat, by omega⟩
                  obtain ⟨q0, q1, q2, q3, q4, q5, q6, q7, q8, q9⟩ := y
                  simp only at hM y0 y4
                  subst hM
                  have m4 : M < 4 := by omega
                  obtain ⟨a0, a1, a2, a3, a4, a5, a6, a7, a8, a9⟩ := pa
                  simp only at a0 a1 a2 a3 a4 a5 a6 a7 a8 a9
                  have ct := MM.out.t M m4
                  cases hth : th M with
                  | false =>
                    rw [hth] at ct
                    have HR := hid (show getR f g i = (p0, s0, 7) from by
                      have e := LG.out.t M m4
                      rw [hth] at e
                      unfold getR
                      rw [if_neg (by omega), hy]
                      simp only
                      cases hfi : f M with
                      | none => rfl
                      | some z => rw [hfi] at e; cases e)
                    clear hkn hth hy hP
                    go_wp2_with fail
                    refine (has_any S3.out i p0 s0 7 (r := true) (by rw [HR.out]; simp)).mono ?_
                    rintro e wd ⟨rfl, od⟩
                    have OD := hid (OR.out.trans od)
                    clear od
                    go_wp2_with fail
                    go_roundg g2
                    case measure => omega
                    case rel => exact ⟨i + 1, IN.out, by go_num, OD.out⟩
                  | true =>
                    rw [hth] at ct
                    obtain ⟨z, hz⟩ : ∃ z, f M = some z := by
                      have e := LG.out.t M m4
                      rw [hth] at e
                      exact Option.isSome_iff_exists.1 e.symm
                    have hQ := LG.out.q M m4 z hz
                    have sa := MM.out.q M m4
                    rw [hQ] at sa
                    obtain ⟨b0, b1, b2, b3, b4, b5, b6, b7, b8⟩ := sa
                    have HR := hid (show getR f g i = (⟨q0, M, q2, q3, q4, q5, q6, q7, q8, q9⟩, z, 0) from by
                      unfold getR
                      rw [if_neg (by omega), hy]
                      simp only
                      rw [hz])
                    clear hkn hth hy hP hz hQ
                    go_wp2_with fail
                    go_cut [97] from 85 to 96 (fun s97 wx => s97 = .bool false ∧ Only [] wr wx)
                    case first =>
                      go_region_with ((go_at_call 24; refine (has_any (S3.out.only ((Only.refl [] _).drewN _) (by simp)) i ⟨q0, M, q2, q3, q4, q5, q6, q7, q8, q9⟩ z 0 (r := true) (by rw [HR.out]; simp)).mono ?_; rintro e wd ⟨rfl, od⟩))
                      all_goals
                        go_wp2_with fail
                        go_meet
                        exact ⟨rfl, by first | exact ((Only.refl [] _).drewN _).trans od | exact ((Only.refl [] _).drew).trans od⟩
                    case rest =>
                      obtain ⟨rfl, od⟩ := hcut
                      have OD := hid (OR.out.trans od)
                      clear od
                      go_wp2_with fail
                      go_roundg g2
                      case measure => omega
                      case rel => exact ⟨i + 1, IN.out, by go_num, OD.out⟩
              · have e4 : i = 4 := by omega
                subst e4
                have HR := hid (show getR f g (4 : Nat) = (p0, s0, 7) from by
                  unfold getR
                  rw [if_neg (by omega)]
                  have e := LG.out.g4
                  rw [show ((4 : Nat) : Int) = 4 from rfl, e])
                rw [show ((4 : Nat) : Int) = 4 from rfl]
                go_wp2_with fail
                refine (has_any S3.out (4 : Nat) p0 s0 7 (r := true) (by rw [HR.out]; simp)).mono ?_
                rintro e wd ⟨rfl, od⟩
                have OD := hid (OR.out.trans od)
                clear od
                go_wp2_with fail
                go_roundg g2
                case measure => omega
                case rel => exact ⟨4 + 1, IN.out, rfl, OD.out⟩
  case rest =>
  have OF := hid hcut
  clear hcut X0
  go_wp2_with fail
  refine (awake_any _).mono ?_
  rintro e w9 ⟨rfl, o9⟩
  have O9 := hid (OF.out.trans o9)
  clear o9
  go_wp2_with fail
  go_ret
  exact ⟨rfl, O9.out⟩
end Go.Proofs.Ytkcjehajmofhfaa

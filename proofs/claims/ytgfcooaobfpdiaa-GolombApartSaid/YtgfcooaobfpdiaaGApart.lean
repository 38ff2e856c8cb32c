/- GolombApart: the code of no number begins with that of another one. -/
import Derived.Test.YtgfcooaobfpdiaaCx
import Derived.Test.YtgfcooaobfpdiaaAgg
import Derived.Deep.RegionHeld3
import Derived.Deep.DeepCutAuto
namespace Go.Proofs.Ytgfcooaobfpdiaa
open Go.RowKit
set_option linter.unusedVariables false

/-- A call in memory, of the call's own. -/
structure CallIn (w : World) (b : Nat) (c m k v : Int) : Prop where
  x0 : w.cell? ⟨b, 0, none⟩ = some (.int .u8 c)
  x1 : w.cell? ⟨b, 1, none⟩ = some (.int .u64 m)
  x2 : w.cell? ⟨b, 2, none⟩ = some (.int .i64 k)
  x3 : w.cell? ⟨b, 3, none⟩ = some (.int .u64 v)
  f : ∀ o, w.frozen? ⟨b, o, none⟩ = false
theorem CallIn.only {w w' : World} {b : Nat} {c m k v : Int} (h : CallIn w b c m k v) (o : Only [] w w') : CallIn w' b c m k v :=
  ⟨o.cell h.x0 (by simp), o.cell h.x1 (by simp), o.cell h.x2 (by simp), o.cell h.x3 (by simp), fun j => (o.frozen (p := ⟨b, j, none⟩) (World.block_lt_of_cell? w ⟨b, 0, none⟩ h.x0) (by simp)).trans (h.f j)⟩
theorem CallIn.new (w : World) (t : TypeId) (c m k v : Int) : CallIn (w.alloc (.cells #[.int .u8 c, .int .u64 m, .int .i64 k, .int .u64 v] t)) w.heap.size c m k v :=
  ⟨by simp, by simp, by simp, by simp, fun o => by simp⟩

theorem only_cell {w w' : World} (k : Only [] w w') : (∀ b o, b < w.heap.size → w'.cell? ⟨b, o, none⟩ = w.cell? ⟨b, o, none⟩) ∧ (∀ b o, b < w.heap.size → w'.frozen? ⟨b, o, none⟩ = w.frozen? ⟨b, o, none⟩) ∧ w.heap.size ≤ w'.heap.size :=
  ⟨fun b o h => World.cell?_of_block (w := w) (k.block b h (by simp)), fun b o h => World.frozen?_of_block (w := w) (k.block b h (by simp)), k.size⟩

theorem same_of {w : World} {a : Addr} {v : Value} (h : (w.cell? a).isSome = true) : (w.setCell a v).cell? a = some v := by
  obtain ⟨u, hu⟩ := Option.isSome_iff_exists.1 h
  exact World.cell?_setCell_same _ _ _ hu
theorem skip4 (w : World) (b b' o : Nat) (u0 u1 u2 u3 : Value) (h : b ≠ b') : ((((w.setCell ⟨b', 0, none⟩ u0).setCell ⟨b', 1, none⟩ u1).setCell ⟨b', 2, none⟩ u2).setCell ⟨b', 3, none⟩ u3).cell? ⟨b, o, none⟩ = w.cell? ⟨b, o, none⟩ := by
  rw [World.cell?_setCell_far _ _ _ _ (Ne.symm h), World.cell?_setCell_far _ _ _ _ (Ne.symm h), World.cell?_setCell_far _ _ _ _ (Ne.symm h), World.cell?_setCell_far _ _ _ _ (Ne.symm h)]
/-- The cells of two calls. -/
def Cells8 (w : World) (p q : Nat) (a b c d e : Int) : Prop :=
  (w.cell? ⟨p, 0, none⟩ = some (.int .u8 a) ∧ w.cell? ⟨p, 1, none⟩ = some (.int .u64 b) ∧ w.cell? ⟨p, 2, none⟩ = some (.int .i64 c) ∧ w.cell? ⟨p, 3, none⟩ = some (.int .u64 d)) ∧
  w.cell? ⟨q, 0, none⟩ = some (.int .u8 a) ∧ w.cell? ⟨q, 1, none⟩ = some (.int .u64 b) ∧ w.cell? ⟨q, 2, none⟩ = some (.int .i64 c) ∧ w.cell? ⟨q, 3, none⟩ = some (.int .u64 e)
theorem cells8_of {w : World} {p q : Nat} {a b c d e : Int} (h : CallIn w p a b c d) (h' : CallIn w q a b c e) : Cells8 w p q a b c d e := ⟨⟨h.x0, h.x1, h.x2, h.x3⟩, h'.x0, h'.x1, h'.x2, h'.x3⟩
theorem keep8 {W w : World} {p q : Nat} {a b c d e : Int} (h : Cells8 W p q a b c d e) (o : Only [] W w) :
    Only [] W w ∧ (w.cell? ⟨p, 0, none⟩ = some (.int .u8 a) ∧ w.cell? ⟨p, 1, none⟩ = some (.int .u64 b) ∧ w.cell? ⟨p, 2, none⟩ = some (.int .i64 c) ∧ w.cell? ⟨p, 3, none⟩ = some (.int .u64 d)) ∧
    w.cell? ⟨q, 0, none⟩ = some (.int .u8 a) ∧ w.cell? ⟨q, 1, none⟩ = some (.int .u64 b) ∧ w.cell? ⟨q, 2, none⟩ = some (.int .i64 c) ∧ w.cell? ⟨q, 3, none⟩ = some (.int .u64 e) := by
  obtain ⟨⟨h1, h2, h3, h4⟩, h5, h6, h7, h8⟩ := h
  exact ⟨o, ⟨o.cell h1 (by simp), o.cell h2 (by simp), o.cell h3 (by simp), o.cell h4 (by simp)⟩, o.cell h5 (by simp), o.cell h6 (by simp), o.cell h7 (by simp), o.cell h8 (by simp)⟩

set_option maxRecDepth 100000 in
set_option maxHeartbeats 4000000 in
theorem apart_walk (x : CallX) (v : Nat) (w : World) (ok : CallOk x) (hv : v ≤ 18446744073709551615) :
    Calls Try.prog 7 #[.agg #[.int .u8 x.1, .int .u64 x.2.1, .int .i64 x.2.2.1, .int .u64 x.2.2.2], .int .u64 v] w fun e w' => e = .returned (.bool true) ∧ Only [] w w' := by
  have ok' : CallOk (x.1, x.2.1, x.2.2.1, (v : Int)) := ⟨ok.1, ok.2.1, ok.2.2.1, Int.natCast_nonneg _, by show (v : Int) ≤ _; omega⟩
  have F1 := hid (fun w => fit_call x w ok)
  have F2 := hid (fun w => fit_call (x.1, x.2.1, x.2.2.1, (v : Int)) w ok')
  have oc := okX x
  have oc' := okX (x.1, x.2.1, x.2.2.1, (v : Int))
  have hcl := cN_le ok
  rw [show cN (x.1, x.2.1, x.2.2.1, (v : Int)) = cN x from rfl, show mN (x.1, x.2.1, x.2.2.1, (v : Int)) = mN x from rfl, show kN (x.1, x.2.1, x.2.2.1, (v : Int)) = kN x from rfl] at F2 oc'
  generalize vN (x.1, x.2.1, x.2.2.1, (v : Int)) = v2 at *
  generalize vN x = v1 at *
  generalize cN x = c at *
  generalize mN x = m at *
  generalize kN x = k at *
  obtain ⟨xc, xm, xk, xv⟩ := x
  simp only at F1 F2 ok ok' ⊢
  clear ok ok'
  generalize (v : Int) = vv at *
  clear hv
  go_enter Try.func7, Try.ntmps7
  go_wp2_with fail
  have hO : Only [] w ((w.alloc (.cells #[.int .u8 xc, .int .u64 xm, .int .i64 xk, .int .u64 xv] 31)).alloc (.cells #[.int .u8 xc, .int .u64 xm, .int .i64 xk, .int .u64 vv] 31)) := ((Only.refl [] w).alloc _).alloc _
  have I1 := (CallIn.new w 31 xc xm xk xv).only ((Only.refl [] _).alloc (.cells #[.int .u8 xc, .int .u64 xm, .int .i64 xk, .int .u64 vv] 31))
  have I2 := CallIn.new (w.alloc (.cells #[.int .u8 xc, .int .u64 xm, .int .i64 xk, .int .u64 xv] 31)) 31 xc xm xk vv
  rw [World.size_alloc] at I2
  generalize World.alloc (World.alloc w _) _ = W at hO I1 I2 ⊢
  have OO := hid hO
  obtain ⟨x0, x1, x2, x3, _⟩ := I1
  obtain ⟨y0, y1, y2, y3, _⟩ := I2
  have hp : w.heap.size < W.heap.size := World.block_lt_of_cell? _ _ x0
  have hq : w.heap.size + 1 < W.heap.size := World.block_lt_of_cell? _ _ y0
  have hpw := hid (Nat.le_refl w.heap.size)
  generalize hP : w.heap.size = p at *
  have PP := hid hP
  clear hO hP
  go_cut [6, 7] from 13 to 16 (fun s6 s7 wx => ∃ b6 b7, s6 = .pointer (some ⟨b6, 0, none⟩) ∧ s7 = .pointer (some ⟨b7, 0, none⟩) ∧ CallIn wx b6 c m k v1 ∧ CallIn wx b7 c m k v2 ∧ b6 ≠ b7 ∧ Only [] W wx)
  case first =>
    have K8 := hid (show Cells8 W p (p + 1) xc xm xk xv vv from ⟨⟨x0, x1, x2, x3⟩, y0, y1, y2, y3⟩)
    go_region_held3 (fun w' => Only [] W w' ∧ (w'.cell? ⟨p, 0, none⟩ = some (.int .u8 xc) ∧ w'.cell? ⟨p, 1, none⟩ = some (.int .u64 xm) ∧ w'.cell? ⟨p, 2, none⟩ = some (.int .i64 xk) ∧ w'.cell? ⟨p, 3, none⟩ = some (.int .u64 xv)) ∧
        w'.cell? ⟨p + 1, 0, none⟩ = some (.int .u8 xc) ∧ w'.cell? ⟨p + 1, 1, none⟩ = some (.int .u64 xm) ∧ w'.cell? ⟨p + 1, 2, none⟩ = some (.int .i64 xk) ∧ w'.cell? ⟨p + 1, 3, none⟩ = some (.int .u64 vv))
      ((refine keep8 K8.out ?_; (repeat (first | with_reducible exact Only.refl _ _ | with_reducible refine Only.alloc ?_ _ | with_reducible refine Only.drew ?_ | with_reducible refine Only.drewN ?_ _ | with_reducible refine Only.setCell ?_ (.inr (by (try simp at hs3); (try simp at hs4); (try dsimp only); omega)) _ | (refine Only.trans ?_ (show Only [] _ _ from by with_reducible assumption))))))
      (first
        | (go_at_call 39; (with_reducible refine (F1.out _).mono ?_); rintro e w3 ⟨rfl, ho3⟩; obtain ⟨hc3, hf3, hs3⟩ := only_cell ho3; (try (have := (show W.heap.size < w3.heap.size from by (try simp at hs3); omega))); (try (have := (show W.heap.size + 1 < w3.heap.size from by (try simp at hs3); omega))))
        | (go_at_call 39; (with_reducible refine (F2.out _).mono ?_); rintro e w4 ⟨rfl, ho4⟩; obtain ⟨hc4, hf4, hs4⟩ := only_cell ho4; (try (have := (show W.heap.size < w4.heap.size from by (try simp at hs3); (try simp at hs4); omega))); (try (have := (show W.heap.size + 1 < w4.heap.size from by (try simp at hs3); (try simp at hs4); omega))); (try (have := (show w3.heap.size < w4.heap.size from by (try simp at hs3); (try simp at hs4); omega))); (try (have := (show w3.heap.size + 1 < w4.heap.size from by (try simp at hs3); (try simp at hs4); omega)))))
    all_goals
      go_wp2_with fail
      go_meet
      refine ⟨_, _, rfl, rfl, ⟨?_, ?_, ?_, ?_, ?_⟩, ⟨?_, ?_, ?_, ?_, ?_⟩, ?_, ?_⟩
      all_goals first
        | (intro _; go_simp; done)
        | (go_simp; done)
        | ((try simp at hs3); (try simp at hs4); omega)
        | (rw [skip4 _ _ _ _ _ _ _ _ (by (try simp at hs3); (try simp at hs4); omega)]; go_simp; done)
        | (rw [skip4 _ _ _ _ _ _ _ _ (by (try simp at hs3); (try simp at hs4); omega)]; go_simp; refine same_of ?_; go_simp; done)
        | (go_simp; refine same_of ?_; go_simp; done)
        | (repeat (first | with_reducible exact Only.refl _ _ | with_reducible refine Only.alloc ?_ _ | with_reducible refine Only.drew ?_ | with_reducible refine Only.drewN ?_ _ | with_reducible refine Only.setCell ?_ (.inr (by (try simp at hs3); (try simp at hs4); (try dsimp only); omega)) _ | (refine Only.trans ?_ (show Only [] _ _ from by with_reducible assumption))); done)
        | skip
  case rest =>
    obtain ⟨b6, b7, rfl, rfl, I6, I7, hne, hOx⟩ := hcut
    have OX := hid (OO.out.trans hOx)
    have K8 := hid (cells8_of I6 I7)
    have I6 := hid I6
    have I7 := hid I7
    clear hOx x0 x1 x2 x3 y0 y1 y2 y3 hp hq F1 F2 OO
    have D1 := hid (fun w => code_any c m k v1 w hcl oc)
    have D2 := hid (fun w => code_any c m k v2 w hcl oc')
    go_wp2_with fail
    go_region_held3 (fun w' => (w'.cell? ⟨b6, 0, none⟩ = some (.int .u8 c) ∧ w'.cell? ⟨b6, 1, none⟩ = some (.int .u64 m) ∧ w'.cell? ⟨b6, 2, none⟩ = some (.int .i64 k) ∧ w'.cell? ⟨b6, 3, none⟩ = some (.int .u64 v1)) ∧
        w'.cell? ⟨b7, 0, none⟩ = some (.int .u8 c) ∧ w'.cell? ⟨b7, 1, none⟩ = some (.int .u64 m) ∧ w'.cell? ⟨b7, 2, none⟩ = some (.int .i64 k) ∧ w'.cell? ⟨b7, 3, none⟩ = some (.int .u64 v2))
      ((refine (keep8 K8.out ?_).2; (repeat (first | with_reducible exact Only.refl _ _ | with_reducible refine Only.alloc ?_ _ | with_reducible refine Only.drew ?_ | with_reducible refine Only.drewN ?_ _ | (refine Only.trans ?_ (show Only [] _ _ from by with_reducible assumption))))))
      (first
        | (go_at_call 42; (with_reducible refine (D1.out _).mono ?_); rintro e w3 ⟨rfl, ho3⟩)
        | (go_at_call 42; (with_reducible refine (D2.out _).mono ?_); rintro e w4 ⟨rfl, ho4⟩))
    all_goals
      have J6 := I6.out.only (w' := w4) (by (repeat (first | with_reducible exact Only.refl _ _ | with_reducible refine Only.alloc ?_ _ | with_reducible refine Only.drew ?_ | with_reducible refine Only.drewN ?_ _ | (refine Only.trans ?_ (show Only [] _ _ from by with_reducible assumption)))))
      have J7 := I7.out.only (w' := w4) (by (repeat (first | with_reducible exact Only.refl _ _ | with_reducible refine Only.alloc ?_ _ | with_reducible refine Only.drew ?_ | with_reducible refine Only.drewN ?_ _ | (refine Only.trans ?_ (show Only [] _ _ from by with_reducible assumption)))))
      have OW := hid (OX.out.trans (show Only [] _ w4 from (by (repeat (first | with_reducible exact Only.refl _ _ | with_reducible refine Only.alloc ?_ _ | with_reducible refine Only.drew ?_ | with_reducible refine Only.drewN ?_ _ | (refine Only.trans ?_ (show Only [] _ _ from by with_reducible assumption)))))))
      have i3 := J6.x3
      have j3 := J7.x3
      have l1 := codeOf_le oc
      have l2 := codeOf_le oc'
      clear J6 J7 I6 I7 K8 D1 D2 ho3 ho4
      by_cases hv : v1 = v2
      · subst hv
        generalize chars (codeOf c m k v1) = cs at *
        clear oc oc' l1 l2
        go_wp2_with fail
        refine (known_any w4).mono ?_
        rintro e w5 ⟨rfl, ho5⟩
        go_wp2_with fail
        go_ret
        exact ⟨rfl, OW.out.trans ho5⟩
      · have hv' : ((v1 : Int) == (v2 : Int)) = false := by rw [beq_eq_false_iff_ne]; omega
        have N1 := hid (fun w => begins_no (codeOf c m k v1) (codeOf c m k v2) w (by omega) (by omega) (code_apart oc oc' hv))
        have N2 := hid (fun w => begins_no (codeOf c m k v2) (codeOf c m k v1) w (by omega) (by omega) (code_apart oc' oc (Ne.symm hv)))
        generalize chars (codeOf c m k v1) = cs1 at *
        generalize chars (codeOf c m k v2) = cs2 at *
        clear oc oc' l1 l2 hv
        go_wp2_with fail
        refine (N1.out w4).mono ?_
        rintro e w5 ⟨rfl, rfl⟩
        go_wp2_with fail
        refine (N2.out w4).mono ?_
        rintro e w5 ⟨rfl, rfl⟩
        go_wp2_with fail
        refine (known_any w4).mono ?_
        rintro e w5 ⟨rfl, ho5⟩
        go_wp2_with fail
        go_ret
        exact ⟨rfl, OW.out.trans ho5⟩

open Go.ChangeShapes Go.WideShapes Go.ChangeAt
theorem golombApart_core {H : Type} {enc : TypeId × Value → H} (W : World) (base : Nat)
    (v0 : Value) (d0 : DataW H) (p0 : List MemPlace) (k0 : Value.okWide Try.prog W .any base 31 v0) (h0 : DataW.Trod enc Try.prog W 0 (fun _ => true) true 31 v0 d0 p0)
    (v1 : Value) (d1 : DataW H) (p1 : List MemPlace) (k1 : Value.okWide Try.prog W .any base 28 v1) (h1 : DataW.Trod enc Try.prog W 0 (fun _ => true) true 28 v1 d1 p1) :
    Calls Try.prog 7 #[v0, v1] W fun e w' => e = .returned (.bool true) ∧ Below W.heap.size W w' := by
  obtain ⟨x, rfl, ok⟩ := open_call k0 h0
  obtain ⟨a, rfl, rfl, rfl, w1⟩ := open_int Try.underlying28 k1 h1
  have b1 := bounds_u64 w1
  obtain ⟨n, rfl⟩ := Int.eq_ofNat_of_zero_le b1.1
  exact (apart_walk x n W ok (by omega)).mono fun e w' ⟨he, ho⟩ => ⟨he, ho.below (Nat.le_refl _) (by simp)⟩
end Go.Proofs.Ytgfcooaobfpdiaa

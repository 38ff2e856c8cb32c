/- GolombOrder: greater numbers never have shorter codes. -/
import Derived.Test.YtgfcooaobfpdiaaAp
namespace Go.Proofs.Ytgfcooaobfpdiaa
open Go.RowKit
set_option linter.unusedVariables false

theorem bitLen_mono {x y : Nat} (h : x ≤ y) (hx : x ≠ 0) (hy : y < 2 ^ 32) : Lib.bitLen x ≤ Lib.bitLen y := by
  obtain ⟨a1, _, a3, _⟩ := bitLen_mid x hx (by omega)
  obtain ⟨b1, _, _, b4⟩ := bitLen_mid y (by omega) hy
  have g : 2 ^ (Lib.bitLen x - 1) < 2 ^ Lib.bitLen y := Nat.lt_of_le_of_lt a3 (by omega)
  have := (Nat.pow_lt_pow_iff_right (by omega : 1 < 2)).1 g
  omega
theorem ueBits_mono {x y : Nat} (h : x ≤ y) (hy : y ≤ 4294967294) : (ueBits x).length ≤ (ueBits y).length := by
  rw [length_ueBits, length_ueBits]
  have := bitLen_mono (show x + 1 ≤ y + 1 by omega) (by omega) (by have : (2 : Nat) ^ 32 = 4294967296 := by decide
                                                                   omega)
  omega
theorem codeOf_mono {c m k u v : Nat} (hc : c % 4 ≠ 1) (ou : OkV c m k u) (ov : OkV c m k v) (h : u ≤ v) : (codeOf c m k u).length ≤ (codeOf c m k v).length := by
  unfold codeOf
  by_cases c0 : c % 4 = 0
  · rw [if_pos c0, if_pos c0]
    exact ueBits_mono h (ov.ue (by omega))
  · rw [if_neg c0, if_neg c0, if_neg hc, if_neg hc]
    by_cases c2 : c % 4 = 2
    · rw [if_pos c2, if_pos c2]
      unfold teBits
      split
      · simp
      · split
        · simp
        · exact ueBits_mono h (by have := ov.te c2; have := ov.mm; omega)
    · rw [if_neg c2, if_neg c2, length_ukBits, length_ukBits]
      have hq : u / 2 ^ k ≤ v / 2 ^ k := Nat.div_le_div_right h
      have hv := ov.uk (by omega)
      generalize u / 2 ^ k = a at *
      generalize v / 2 ^ k = b at *
      have := bitLen_mono (show a + 1 ≤ b + 1 by omega) (by omega) (by have : (2 : Nat) ^ 32 = 4294967296 := by decide
                                                                       omega)
      omega

theorem CallIn.onlyS {S : List Nat} {w w' : World} {b : Nat} {c m k v : Int} (h : CallIn w b c m k v) (o : Only S w w') (hb : b ∉ S) : CallIn w' b c m k v :=
  ⟨o.cell h.x0 hb, o.cell h.x1 hb, o.cell h.x2 hb, o.cell h.x3 hb, fun j => (o.frozen (p := ⟨b, j, none⟩) (World.block_lt_of_cell? w ⟨b, 0, none⟩ h.x0) hb).trans (h.f j)⟩
theorem CallIn.store {w : World} {b : Nat} {c m k v : Int} (h : CallIn w b c m k v) (u : Int) :
    CallIn ((((w.setCell ⟨b, 0, none⟩ (.int .u8 c)).setCell ⟨b, 1, none⟩ (.int .u64 m)).setCell ⟨b, 2, none⟩ (.int .i64 k)).setCell ⟨b, 3, none⟩ (.int .u64 u)) b c m k u ∧
    Only [b] w ((((w.setCell ⟨b, 0, none⟩ (.int .u8 c)).setCell ⟨b, 1, none⟩ (.int .u64 m)).setCell ⟨b, 2, none⟩ (.int .i64 k)).setCell ⟨b, 3, none⟩ (.int .u64 u)) := by
  have ne : ∀ (x y : Nat), x ≠ y → (⟨b, x, none⟩ : Addr) ≠ ⟨b, y, none⟩ := fun x y h e => by injection e with _ e2 _; exact h e2
  have k0 : World.cell? (w.setCell ⟨b, 0, none⟩ (.int .u8 c)) ⟨b, 0, none⟩ = some (.int .u8 c) := World.cell?_setCell_same _ _ _ h.x0
  have k1 : World.cell? ((w.setCell ⟨b, 0, none⟩ (.int .u8 c)).setCell ⟨b, 1, none⟩ (.int .u64 m)) ⟨b, 1, none⟩ = some (.int .u64 m) := World.cell?_setCell_same _ _ _ ((World.cell?_setCell_other _ _ _ _ (ne 0 1 (by omega))).trans h.x1)
  have k2 : World.cell? (((w.setCell ⟨b, 0, none⟩ (.int .u8 c)).setCell ⟨b, 1, none⟩ (.int .u64 m)).setCell ⟨b, 2, none⟩ (.int .i64 k)) ⟨b, 2, none⟩ = some (.int .i64 k) :=
    World.cell?_setCell_same _ _ _ ((World.cell?_setCell_other _ _ _ _ (ne 1 2 (by omega))).trans ((World.cell?_setCell_other _ _ _ _ (ne 0 2 (by omega))).trans h.x2))
  refine ⟨⟨?_, ?_, ?_, ?_, fun o => ?_⟩, ?_⟩
  · exact (World.cell?_setCell_other _ _ _ _ (ne 3 0 (by omega))).trans ((World.cell?_setCell_other _ _ _ _ (ne 2 0 (by omega))).trans ((World.cell?_setCell_other _ _ _ _ (ne 1 0 (by omega))).trans k0))
  · exact (World.cell?_setCell_other _ _ _ _ (ne 3 1 (by omega))).trans ((World.cell?_setCell_other _ _ _ _ (ne 2 1 (by omega))).trans k1)
  · exact (World.cell?_setCell_other _ _ _ _ (ne 3 2 (by omega))).trans k2
  · exact World.cell?_setCell_same _ _ _ ((World.cell?_setCell_other _ _ _ _ (ne 2 3 (by omega))).trans ((World.cell?_setCell_other _ _ _ _ (ne 1 3 (by omega))).trans ((World.cell?_setCell_other _ _ _ _ (ne 0 3 (by omega))).trans h.x3)))
  · exact (World.frozen?_setCell _ _ _ _).trans ((World.frozen?_setCell _ _ _ _).trans ((World.frozen?_setCell _ _ _ _).trans ((World.frozen?_setCell _ _ _ _).trans (h.f o))))
  · exact ((((Only.refl [b] w).setCell (.inl (by simp)) _).setCell (.inl (by simp)) _).setCell (.inl (by simp)) _).setCell (.inl (by simp)) _
/-- Both are stored where the other one was. -/
theorem swap_cells {w : World} {b b' : Nat} {c m k v v' : Int} (h : CallIn w b c m k v) (h' : CallIn w b' c m k v') (ne : b ≠ b') {wy : World}
    (hw : ((((((((w.setCell ⟨b, 0, none⟩ (.int .u8 c)).setCell ⟨b, 1, none⟩ (.int .u64 m)).setCell ⟨b, 2, none⟩ (.int .i64 k)).setCell ⟨b, 3, none⟩ (.int .u64 v')).setCell ⟨b', 0, none⟩ (.int .u8 c)).setCell ⟨b', 1, none⟩ (.int .u64 m)).setCell ⟨b', 2, none⟩ (.int .i64 k)).setCell ⟨b', 3, none⟩ (.int .u64 v)) = wy) :
    CallIn wy b c m k v' ∧ CallIn wy b' c m k v ∧ Only [b, b'] w wy := by
  subst hw
  obtain ⟨s1, o1⟩ := h.store v'
  obtain ⟨s2, o2⟩ := (h'.onlyS o1 (by simpa using Ne.symm ne)).store v
  exact ⟨s1.onlyS o2 (by simpa using ne), s2, (o1.mono (fun x _ hx => by rw [List.mem_singleton.1 hx]; simp)).trans (o2.mono (fun x _ hx => by rw [List.mem_singleton.1 hx]; simp))⟩

set_option maxRecDepth 100000 in
set_option maxHeartbeats 4000000 in
theorem order_walk (x : CallX) (v : Nat) (w : World) (ok : CallOk x) (hv : v ≤ 18446744073709551615) (h1 : (x.1 % 4 == 1) = false) (hn1 : cN x % 4 ≠ 1) :
    Calls Try.prog 10 #[.agg #[.int .u8 x.1, .int .u64 x.2.1, .int .i64 x.2.2.1, .int .u64 x.2.2.2], .int .u64 v] w fun e w' => e = .returned (.bool true) ∧ Only [] w w' := by
  have ok' : CallOk (x.1, x.2.1, x.2.2.1, (v : Int)) := ⟨ok.1, ok.2.1, ok.2.2.1, Int.natCast_nonneg _, by show (v : Int) ≤ _; omega⟩
  have F1 := hid (fun w => fit_call x w ok)
  have F2 := hid (fun w => fit_call (x.1, x.2.1, x.2.2.1, (v : Int)) w ok')
  have oc := okX x
  have oc' := okX (x.1, x.2.1, x.2.2.1, (v : Int))
  have hcl := cN_le ok
  rw [show cN (x.1, x.2.1, x.2.2.1, (v : Int)) = cN x from rfl, show mN (x.1, x.2.1, x.2.2.1, (v : Int)) = mN x from rfl, show kN (x.1, x.2.1, x.2.2.1, (v : Int)) = kN x from rfl] at F2 oc'
  generalize vN (x.1, x.2.1, x.2.2.1, (v : Int)) = v2 at *
  generalize vN x = v1 at *
  generalize cN x = c at *
  generalize mN x = m at *
  generalize kN x = k at *
  obtain ⟨xc, xm, xk, xv⟩ := x
  simp only at F1 F2 ok ok' h1 ⊢
  have hx0 : 0 ≤ xc := ok.1.1
  have hx1 : xc ≤ 255 := ok.1.2
  clear ok ok'
  generalize (v : Int) = vv at *
  clear hv
  go_enter Try.func10, Try.ntmps10
  go_wp2_with fail
  have hO : Only [] w ((w.alloc (.cells #[.int .u8 xc, .int .u64 xm, .int .i64 xk, .int .u64 xv] 31)).alloc (.cells #[.int .u8 xc, .int .u64 xm, .int .i64 xk, .int .u64 vv] 31)) := ((Only.refl [] w).alloc _).alloc _
  have I1 := (CallIn.new w 31 xc xm xk xv).only ((Only.refl [] _).alloc (.cells #[.int .u8 xc, .int .u64 xm, .int .i64 xk, .int .u64 vv] 31))
  have I2 := CallIn.new (w.alloc (.cells #[.int .u8 xc, .int .u64 xm, .int .i64 xk, .int .u64 xv] 31)) 31 xc xm xk vv
  rw [World.size_alloc] at I2
  generalize World.alloc (World.alloc w _) _ = W at hO I1 I2 ⊢
  have OO := hid hO
  obtain ⟨x0, x1, x2, x3, _⟩ := I1
  obtain ⟨y0, y1, y2, y3, _⟩ := I2
  have hp : w.heap.size < W.heap.size := World.block_lt_of_cell? _ _ x0
  have hq : w.heap.size + 1 < W.heap.size := World.block_lt_of_cell? _ _ y0
  have hpw := hid (Nat.le_refl w.heap.size)
  generalize hP : w.heap.size = p at *
  have PP := hid hP
  clear hO hP
  go_cut [6, 7] from 16 to 19 (fun s6 s7 wx => ∃ b6 b7, s6 = .pointer (some ⟨b6, 0, none⟩) ∧ s7 = .pointer (some ⟨b7, 0, none⟩) ∧ CallIn wx b6 c m k v1 ∧ CallIn wx b7 c m k v2 ∧ b6 ≠ b7 ∧ p ≤ b6 ∧ p ≤ b7 ∧ Only [] W wx)
  case first =>
    have K8 := hid (show Cells8 W p (p + 1) xc xm xk xv vv from ⟨⟨x0, x1, x2, x3⟩, y0, y1, y2, y3⟩)
    go_region_held3 (fun w' => Only [] W w' ∧ (w'.cell? ⟨p, 0, none⟩ = some (.int .u8 xc) ∧ w'.cell? ⟨p, 1, none⟩ = some (.int .u64 xm) ∧ w'.cell? ⟨p, 2, none⟩ = some (.int .i64 xk) ∧ w'.cell? ⟨p, 3, none⟩ = some (.int .u64 xv)) ∧
        w'.cell? ⟨p + 1, 0, none⟩ = some (.int .u8 xc) ∧ w'.cell? ⟨p + 1, 1, none⟩ = some (.int .u64 xm) ∧ w'.cell? ⟨p + 1, 2, none⟩ = some (.int .i64 xk) ∧ w'.cell? ⟨p + 1, 3, none⟩ = some (.int .u64 vv))
      ((refine keep8 K8.out ?_; (repeat (first | with_reducible exact Only.refl _ _ | with_reducible refine Only.alloc ?_ _ | with_reducible refine Only.drew ?_ | with_reducible refine Only.drewN ?_ _ | with_reducible refine Only.setCell ?_ (.inr (by (try simp at hs3); (try simp at hs4); (try dsimp only); omega)) _ | (refine Only.trans ?_ (show Only [] _ _ from by with_reducible assumption))))))
      (first
        | (go_at_call 39; (with_reducible refine (F1.out _).mono ?_); rintro e w3 ⟨rfl, ho3⟩; obtain ⟨hc3, hf3, hs3⟩ := only_cell ho3; (try (have := (show W.heap.size < w3.heap.size from by (try simp at hs3); omega))); (try (have := (show W.heap.size + 1 < w3.heap.size from by (try simp at hs3); omega))))
        | (go_at_call 39; (with_reducible refine (F2.out _).mono ?_); rintro e w4 ⟨rfl, ho4⟩; obtain ⟨hc4, hf4, hs4⟩ := only_cell ho4; (try (have := (show W.heap.size < w4.heap.size from by (try simp at hs3); (try simp at hs4); omega))); (try (have := (show W.heap.size + 1 < w4.heap.size from by (try simp at hs3); (try simp at hs4); omega))); (try (have := (show w3.heap.size < w4.heap.size from by (try simp at hs3); (try simp at hs4); omega))); (try (have := (show w3.heap.size + 1 < w4.heap.size from by (try simp at hs3); (try simp at hs4); omega)))))
    all_goals
      go_wp2_with fail
      go_meet
      refine ⟨_, _, rfl, rfl, ⟨?_, ?_, ?_, ?_, ?_⟩, ⟨?_, ?_, ?_, ?_, ?_⟩, ?_, ?_, ?_, ?_⟩
      all_goals first
        | (intro _; go_simp; done)
        | (go_simp; done)
        | ((try simp at hs3); (try simp at hs4); omega)
        | (rw [skip4 _ _ _ _ _ _ _ _ (by (try simp at hs3); (try simp at hs4); omega)]; go_simp; done)
        | (rw [skip4 _ _ _ _ _ _ _ _ (by (try simp at hs3); (try simp at hs4); omega)]; go_simp; refine same_of ?_; go_simp; done)
        | (go_simp; refine same_of ?_; go_simp; done)
        | (repeat (first | with_reducible exact Only.refl _ _ | with_reducible refine Only.alloc ?_ _ | with_reducible refine Only.drew ?_ | with_reducible refine Only.drewN ?_ _ | with_reducible refine Only.setCell ?_ (.inr (by (try simp at hs3); (try simp at hs4); (try dsimp only); omega)) _ | (refine Only.trans ?_ (show Only [] _ _ from by with_reducible assumption))); done)
        | skip
  case rest =>
    obtain ⟨b6, b7, rfl, rfl, I6, I7, hne, hb6, hb7, hOx⟩ := hcut
    have OX := hid (OO.out.trans hOx)
    by_cases hgt : v2 < v1
    · have hgt' : (v2 : Int) < (v1 : Int) := by omega
      have SW := hid (fun wy hw => swap_cells (wy := wy) I6 I7 hne hw)
      have SP := hid (fun wy (o : Only [b6, b7] _ wy) => OX.out.trans2 o (fun x hx => .inr (by rw [PP.out]; simp at hx; rcases hx with e | e <;> rw [e]; exact hb6; exact hb7)))
      have i3 := I6.x3
      have j3 := I7.x3
      have a0 := I6.x0
      have a1 := I6.x1
      have a2 := I6.x2
      have d0 := I7.x0
      have d1 := I7.x1
      have d2 := I7.x2
      have fa := I6.f
      have fb := I7.f
      clear hOx x0 x1 x2 x3 y0 y1 y2 y3 hp hq F1 F2 OO I6 I7
      go_wp2_with fail
      generalize hwy : World.setCell _ ⟨b7, 3, none⟩ _ = wy
      obtain ⟨J6, J7, o67⟩ := SW.out wy hwy
      have OX := hid (SP.out wy o67)
      clear SW SP i3 j3 a0 a1 a2 d0 d1 d2 fa fb hwy o67 hb6 hb7
      have K8 := hid (cells8_of J6 J7)
      have J6 := hid J6
      have J7 := hid J7
      have D1 := hid (fun w => code_any c m k v2 w hcl oc')
      have D2 := hid (fun w => code_any c m k v1 w hcl oc)
      have hle : ((chars (codeOf c m k v2)).size : Int) ≤ ((chars (codeOf c m k v1)).size : Int) := by rw [size_chars, size_chars]; have := codeOf_mono hn1 oc' oc (by omega); omega
      have hl1 : (chars (codeOf c m k v2)).size ≤ 71 := by rw [size_chars]; exact codeOf_le oc'
      have hl2 : (chars (codeOf c m k v1)).size ≤ 71 := by rw [size_chars]; exact codeOf_le oc
      generalize chars (codeOf c m k v2) = cs1 at *
      generalize chars (codeOf c m k v1) = cs2 at *
      go_region_held3 (fun w' => (w'.cell? ⟨b6, 0, none⟩ = some (.int .u8 c) ∧ w'.cell? ⟨b6, 1, none⟩ = some (.int .u64 m) ∧ w'.cell? ⟨b6, 2, none⟩ = some (.int .i64 k) ∧ w'.cell? ⟨b6, 3, none⟩ = some (.int .u64 v2)) ∧
          w'.cell? ⟨b7, 0, none⟩ = some (.int .u8 c) ∧ w'.cell? ⟨b7, 1, none⟩ = some (.int .u64 m) ∧ w'.cell? ⟨b7, 2, none⟩ = some (.int .i64 k) ∧ w'.cell? ⟨b7, 3, none⟩ = some (.int .u64 v1))
        ((refine (keep8 K8.out ?_).2; (repeat (first | with_reducible exact Only.refl _ _ | with_reducible refine Only.alloc ?_ _ | with_reducible refine Only.drew ?_ | with_reducible refine Only.drewN ?_ _ | (refine Only.trans ?_ (show Only [] _ _ from by with_reducible assumption))))))
        (first
          | (go_at_call 42; (with_reducible refine (D1.out _).mono ?_); rintro e w3 ⟨rfl, ho3⟩)
          | (go_at_call 42; (with_reducible refine (D2.out _).mono ?_); rintro e w4 ⟨rfl, ho4⟩)
          | (go_at_call 11; refine (known_any _).mono ?_; rintro e w5 ⟨rfl, ho5⟩))
      all_goals
        have OW := hid (OX.out.trans (show Only [] _ w5 from (by (repeat (first | with_reducible exact Only.refl _ _ | with_reducible refine Only.alloc ?_ _ | with_reducible refine Only.drew ?_ | with_reducible refine Only.drewN ?_ _ | (refine Only.trans ?_ (show Only [] _ _ from by with_reducible assumption)))))))
        go_wp2_with fail
        go_ret
        exact ⟨rfl, OW.out⟩
    · have hgt' : (v1 : Int) ≤ (v2 : Int) := by omega
      have i3 := I6.x3
      have j3 := I7.x3
      have J6 := I6
      have J7 := I7
      clear hOx x0 x1 x2 x3 y0 y1 y2 y3 hp hq F1 F2 OO I6 I7
      go_wp2_with fail
      clear i3 j3
      have K8 := hid (cells8_of J6 J7)
      have J6 := hid J6
      have J7 := hid J7
      have D1 := hid (fun w => code_any c m k v1 w hcl oc)
      have D2 := hid (fun w => code_any c m k v2 w hcl oc')
      have hle : ((chars (codeOf c m k v1)).size : Int) ≤ ((chars (codeOf c m k v2)).size : Int) := by rw [size_chars, size_chars]; have := codeOf_mono hn1 oc oc' (by omega); omega
      have hl1 : (chars (codeOf c m k v1)).size ≤ 71 := by rw [size_chars]; exact codeOf_le oc
      have hl2 : (chars (codeOf c m k v2)).size ≤ 71 := by rw [size_chars]; exact codeOf_le oc'
      generalize chars (codeOf c m k v1) = cs1 at *
      generalize chars (codeOf c m k v2) = cs2 at *
      go_region_held3 (fun w' => (w'.cell? ⟨b6, 0, none⟩ = some (.int .u8 c) ∧ w'.cell? ⟨b6, 1, none⟩ = some (.int .u64 m) ∧ w'.cell? ⟨b6, 2, none⟩ = some (.int .i64 k) ∧ w'.cell? ⟨b6, 3, none⟩ = some (.int .u64 v1)) ∧
          w'.cell? ⟨b7, 0, none⟩ = some (.int .u8 c) ∧ w'.cell? ⟨b7, 1, none⟩ = some (.int .u64 m) ∧ w'.cell? ⟨b7, 2, none⟩ = some (.int .i64 k) ∧ w'.cell? ⟨b7, 3, none⟩ = some (.int .u64 v2))
        ((refine (keep8 K8.out ?_).2; (repeat (first | with_reducible exact Only.refl _ _ | with_reducible refine Only.alloc ?_ _ | with_reducible refine Only.drew ?_ | with_reducible refine Only.drewN ?_ _ | (refine Only.trans ?_ (show Only [] _ _ from by with_reducible assumption))))))
        (first
          | (go_at_call 42; (with_reducible refine (D1.out _).mono ?_); rintro e w3 ⟨rfl, ho3⟩)
          | (go_at_call 42; (with_reducible refine (D2.out _).mono ?_); rintro e w4 ⟨rfl, ho4⟩)
          | (go_at_call 11; refine (known_any _).mono ?_; rintro e w5 ⟨rfl, ho5⟩))
      all_goals
        have OW := hid (OX.out.trans (show Only [] _ w5 from (by (repeat (first | with_reducible exact Only.refl _ _ | with_reducible refine Only.alloc ?_ _ | with_reducible refine Only.drew ?_ | with_reducible refine Only.drewN ?_ _ | (refine Only.trans ?_ (show Only [] _ _ from by with_reducible assumption)))))))
        go_wp2_with fail
        go_ret
        exact ⟨rfl, OW.out⟩

set_option maxRecDepth 100000 in
set_option maxHeartbeats 4000000 in
theorem order_walk0 (xw : Int) (x : CallX) (v : Nat) (w : World) (ok : CallOk x) (hv : v ≤ 18446744073709551615) (h0 : x.1 = 0) (h1 : (xw % 4 == 1) = true) (hx0 : 0 ≤ xw) (hx1 : xw ≤ 255) (hn1 : cN x % 4 ≠ 1) :
    Calls Try.prog 10 #[.agg #[.int .u8 xw, .int .u64 x.2.1, .int .i64 x.2.2.1, .int .u64 x.2.2.2], .int .u64 v] w fun e w' => e = .returned (.bool true) ∧ Only [] w w' := by
  have ok' : CallOk (x.1, x.2.1, x.2.2.1, (v : Int)) := ⟨ok.1, ok.2.1, ok.2.2.1, Int.natCast_nonneg _, by show (v : Int) ≤ _; omega⟩
  have F1 := hid (fun w => fit_call x w ok)
  have F2 := hid (fun w => fit_call (x.1, x.2.1, x.2.2.1, (v : Int)) w ok')
  have oc := okX x
  have oc' := okX (x.1, x.2.1, x.2.2.1, (v : Int))
  have hcl := cN_le ok
  rw [show cN (x.1, x.2.1, x.2.2.1, (v : Int)) = cN x from rfl, show mN (x.1, x.2.1, x.2.2.1, (v : Int)) = mN x from rfl, show kN (x.1, x.2.1, x.2.2.1, (v : Int)) = kN x from rfl] at F2 oc'
  generalize vN (x.1, x.2.1, x.2.2.1, (v : Int)) = v2 at *
  generalize vN x = v1 at *
  generalize cN x = c at *
  generalize mN x = m at *
  generalize kN x = k at *
  obtain ⟨xc, xm, xk, xv⟩ := x
  simp only at F1 F2 ok ok' h0 ⊢
  subst h0
  clear ok ok'
  generalize (v : Int) = vv at *
  clear hv
  go_enter Try.func10, Try.ntmps10
  go_wp2_with fail
  have hO : Only [] w ((w.alloc (.cells #[.int .u8 0, .int .u64 xm, .int .i64 xk, .int .u64 xv] 31)).alloc (.cells #[.int .u8 0, .int .u64 xm, .int .i64 xk, .int .u64 vv] 31)) := ((Only.refl [] w).alloc _).alloc _
  have I1 := (CallIn.new w 31 0 xm xk xv).only ((Only.refl [] _).alloc (.cells #[.int .u8 0, .int .u64 xm, .int .i64 xk, .int .u64 vv] 31))
  have I2 := CallIn.new (w.alloc (.cells #[.int .u8 0, .int .u64 xm, .int .i64 xk, .int .u64 xv] 31)) 31 0 xm xk vv
  rw [World.size_alloc] at I2
  generalize World.alloc (World.alloc w _) _ = W at hO I1 I2 ⊢
  have OO := hid hO
  obtain ⟨x0, x1, x2, x3, _⟩ := I1
  obtain ⟨y0, y1, y2, y3, _⟩ := I2
  have hp : w.heap.size < W.heap.size := World.block_lt_of_cell? _ _ x0
  have hq : w.heap.size + 1 < W.heap.size := World.block_lt_of_cell? _ _ y0
  have hpw := hid (Nat.le_refl w.heap.size)
  generalize hP : w.heap.size = p at *
  have PP := hid hP
  clear hO hP
  go_cut [6, 7] from 16 to 19 (fun s6 s7 wx => ∃ b6 b7, s6 = .pointer (some ⟨b6, 0, none⟩) ∧ s7 = .pointer (some ⟨b7, 0, none⟩) ∧ CallIn wx b6 c m k v1 ∧ CallIn wx b7 c m k v2 ∧ b6 ≠ b7 ∧ p ≤ b6 ∧ p ≤ b7 ∧ Only [] W wx)
  case first =>
    have K8 := hid (show Cells8 W p (p + 1) 0 xm xk xv vv from ⟨⟨x0, x1, x2, x3⟩, y0, y1, y2, y3⟩)
    go_region_held3 (fun w' => Only [] W w' ∧ (w'.cell? ⟨p, 0, none⟩ = some (.int .u8 0) ∧ w'.cell? ⟨p, 1, none⟩ = some (.int .u64 xm) ∧ w'.cell? ⟨p, 2, none⟩ = some (.int .i64 xk) ∧ w'.cell? ⟨p, 3, none⟩ = some (.int .u64 xv)) ∧
        w'.cell? ⟨p + 1, 0, none⟩ = some (.int .u8 0) ∧ w'.cell? ⟨p + 1, 1, none⟩ = some (.int .u64 xm) ∧ w'.cell? ⟨p + 1, 2, none⟩ = some (.int .i64 xk) ∧ w'.cell? ⟨p + 1, 3, none⟩ = some (.int .u64 vv))
      ((refine keep8 K8.out ?_; (repeat (first | with_reducible exact Only.refl _ _ | with_reducible refine Only.alloc ?_ _ | with_reducible refine Only.drew ?_ | with_reducible refine Only.drewN ?_ _ | with_reducible refine Only.setCell ?_ (.inr (by (try simp at hs3); (try simp at hs4); (try dsimp only); omega)) _ | (refine Only.trans ?_ (show Only [] _ _ from by with_reducible assumption))))))
      (first
        | (go_at_call 39; (with_reducible refine (F1.out _).mono ?_); rintro e w3 ⟨rfl, ho3⟩; obtain ⟨hc3, hf3, hs3⟩ := only_cell ho3; (try (have := (show W.heap.size < w3.heap.size from by (try simp at hs3); omega))); (try (have := (show W.heap.size + 1 < w3.heap.size from by (try simp at hs3); omega))))
        | (go_at_call 39; (with_reducible refine (F2.out _).mono ?_); rintro e w4 ⟨rfl, ho4⟩; obtain ⟨hc4, hf4, hs4⟩ := only_cell ho4; (try (have := (show W.heap.size < w4.heap.size from by (try simp at hs3); (try simp at hs4); omega))); (try (have := (show W.heap.size + 1 < w4.heap.size from by (try simp at hs3); (try simp at hs4); omega))); (try (have := (show w3.heap.size < w4.heap.size from by (try simp at hs3); (try simp at hs4); omega))); (try (have := (show w3.heap.size + 1 < w4.heap.size from by (try simp at hs3); (try simp at hs4); omega)))))
    all_goals
      go_wp2_with fail
      go_meet
      refine ⟨_, _, rfl, rfl, ⟨?_, ?_, ?_, ?_, ?_⟩, ⟨?_, ?_, ?_, ?_, ?_⟩, ?_, ?_, ?_, ?_⟩
      all_goals first
        | (intro _; go_simp; done)
        | (go_simp; done)
        | ((try simp at hs3); (try simp at hs4); omega)
        | (rw [skip4 _ _ _ _ _ _ _ _ (by (try simp at hs3); (try simp at hs4); omega)]; go_simp; done)
        | (rw [skip4 _ _ _ _ _ _ _ _ (by (try simp at hs3); (try simp at hs4); omega)]; go_simp; refine same_of ?_; go_simp; done)
        | (go_simp; refine same_of ?_; go_simp; done)
        | (repeat (first | with_reducible exact Only.refl _ _ | with_reducible refine Only.alloc ?_ _ | with_reducible refine Only.drew ?_ | with_reducible refine Only.drewN ?_ _ | with_reducible refine Only.setCell ?_ (.inr (by (try simp at hs3); (try simp at hs4); (try dsimp only); omega)) _ | (refine Only.trans ?_ (show Only [] _ _ from by with_reducible assumption))); done)
        | skip
  case rest =>
    obtain ⟨b6, b7, rfl, rfl, I6, I7, hne, hb6, hb7, hOx⟩ := hcut
    have OX := hid (OO.out.trans hOx)
    by_cases hgt : v2 < v1
    · have hgt' : (v2 : Int) < (v1 : Int) := by omega
      have SW := hid (fun wy hw => swap_cells (wy := wy) I6 I7 hne hw)
      have SP := hid (fun wy (o : Only [b6, b7] _ wy) => OX.out.trans2 o (fun x hx => .inr (by rw [PP.out]; simp at hx; rcases hx with e | e <;> rw [e]; exact hb6; exact hb7)))
      have i3 := I6.x3
      have j3 := I7.x3
      have a0 := I6.x0
      have a1 := I6.x1
      have a2 := I6.x2
      have d0 := I7.x0
      have d1 := I7.x1
      have d2 := I7.x2
      have fa := I6.f
      have fb := I7.f
      clear hOx x0 x1 x2 x3 y0 y1 y2 y3 hp hq F1 F2 OO I6 I7
      go_wp2_with fail
      generalize hwy : World.setCell _ ⟨b7, 3, none⟩ _ = wy
      obtain ⟨J6, J7, o67⟩ := SW.out wy hwy
      have OX := hid (SP.out wy o67)
      clear SW SP i3 j3 a0 a1 a2 d0 d1 d2 fa fb hwy o67 hb6 hb7
      have K8 := hid (cells8_of J6 J7)
      have J6 := hid J6
      have J7 := hid J7
      have D1 := hid (fun w => code_any c m k v2 w hcl oc')
      have D2 := hid (fun w => code_any c m k v1 w hcl oc)
      have hle : ((chars (codeOf c m k v2)).size : Int) ≤ ((chars (codeOf c m k v1)).size : Int) := by rw [size_chars, size_chars]; have := codeOf_mono hn1 oc' oc (by omega); omega
      have hl1 : (chars (codeOf c m k v2)).size ≤ 71 := by rw [size_chars]; exact codeOf_le oc'
      have hl2 : (chars (codeOf c m k v1)).size ≤ 71 := by rw [size_chars]; exact codeOf_le oc
      generalize chars (codeOf c m k v2) = cs1 at *
      generalize chars (codeOf c m k v1) = cs2 at *
      go_region_held3 (fun w' => (w'.cell? ⟨b6, 0, none⟩ = some (.int .u8 c) ∧ w'.cell? ⟨b6, 1, none⟩ = some (.int .u64 m) ∧ w'.cell? ⟨b6, 2, none⟩ = some (.int .i64 k) ∧ w'.cell? ⟨b6, 3, none⟩ = some (.int .u64 v2)) ∧
          w'.cell? ⟨b7, 0, none⟩ = some (.int .u8 c) ∧ w'.cell? ⟨b7, 1, none⟩ = some (.int .u64 m) ∧ w'.cell? ⟨b7, 2, none⟩ = some (.int .i64 k) ∧ w'.cell? ⟨b7, 3, none⟩ = some (.int .u64 v1))
        ((refine (keep8 K8.out ?_).2; (repeat (first | with_reducible exact Only.refl _ _ | with_reducible refine Only.alloc ?_ _ | with_reducible refine Only.drew ?_ | with_reducible refine Only.drewN ?_ _ | (refine Only.trans ?_ (show Only [] _ _ from by with_reducible assumption))))))
        (first
          | (go_at_call 42; (with_reducible refine (D1.out _).mono ?_); rintro e w3 ⟨rfl, ho3⟩)
          | (go_at_call 42; (with_reducible refine (D2.out _).mono ?_); rintro e w4 ⟨rfl, ho4⟩)
          | (go_at_call 11; refine (known_any _).mono ?_; rintro e w5 ⟨rfl, ho5⟩))
      all_goals
        have OW := hid (OX.out.trans (show Only [] _ w5 from (by (repeat (first | with_reducible exact Only.refl _ _ | with_reducible refine Only.alloc ?_ _ | with_reducible refine Only.drew ?_ | with_reducible refine Only.drewN ?_ _ | (refine Only.trans ?_ (show Only [] _ _ from by with_reducible assumption)))))))
        go_wp2_with fail
        go_ret
        exact ⟨rfl, OW.out⟩
    · have hgt' : (v1 : Int) ≤ (v2 : Int) := by omega
      have i3 := I6.x3
      have j3 := I7.x3
      have J6 := I6
      have J7 := I7
      clear hOx x0 x1 x2 x3 y0 y1 y2 y3 hp hq F1 F2 OO I6 I7
      go_wp2_with fail
      clear i3 j3
      have K8 := hid (cells8_of J6 J7)
      have J6 := hid J6
      have J7 := hid J7
      have D1 := hid (fun w => code_any c m k v1 w hcl oc)
      have D2 := hid (fun w => code_any c m k v2 w hcl oc')
      have hle : ((chars (codeOf c m k v1)).size : Int) ≤ ((chars (codeOf c m k v2)).size : Int) := by rw [size_chars, size_chars]; have := codeOf_mono hn1 oc oc' (by omega); omega
      have hl1 : (chars (codeOf c m k v1)).size ≤ 71 := by rw [size_chars]; exact codeOf_le oc
      have hl2 : (chars (codeOf c m k v2)).size ≤ 71 := by rw [size_chars]; exact codeOf_le oc'
      generalize chars (codeOf c m k v1) = cs1 at *
      generalize chars (codeOf c m k v2) = cs2 at *
      go_region_held3 (fun w' => (w'.cell? ⟨b6, 0, none⟩ = some (.int .u8 c) ∧ w'.cell? ⟨b6, 1, none⟩ = some (.int .u64 m) ∧ w'.cell? ⟨b6, 2, none⟩ = some (.int .i64 k) ∧ w'.cell? ⟨b6, 3, none⟩ = some (.int .u64 v1)) ∧
          w'.cell? ⟨b7, 0, none⟩ = some (.int .u8 c) ∧ w'.cell? ⟨b7, 1, none⟩ = some (.int .u64 m) ∧ w'.cell? ⟨b7, 2, none⟩ = some (.int .i64 k) ∧ w'.cell? ⟨b7, 3, none⟩ = some (.int .u64 v2))
        ((refine (keep8 K8.out ?_).2; (repeat (first | with_reducible exact Only.refl _ _ | with_reducible refine Only.alloc ?_ _ | with_reducible refine Only.drew ?_ | with_reducible refine Only.drewN ?_ _ | (refine Only.trans ?_ (show Only [] _ _ from by with_reducible assumption))))))
        (first
          | (go_at_call 42; (with_reducible refine (D1.out _).mono ?_); rintro e w3 ⟨rfl, ho3⟩)
          | (go_at_call 42; (with_reducible refine (D2.out _).mono ?_); rintro e w4 ⟨rfl, ho4⟩)
          | (go_at_call 11; refine (known_any _).mono ?_; rintro e w5 ⟨rfl, ho5⟩))
      all_goals
        have OW := hid (OX.out.trans (show Only [] _ w5 from (by (repeat (first | with_reducible exact Only.refl _ _ | with_reducible refine Only.alloc ?_ _ | with_reducible refine Only.drew ?_ | with_reducible refine Only.drewN ?_ _ | (refine Only.trans ?_ (show Only [] _ _ from by with_reducible assumption)))))))
        go_wp2_with fail
        go_ret
        exact ⟨rfl, OW.out⟩

open Go.ChangeShapes Go.WideShapes Go.ChangeAt
theorem golombOrder_core {H : Type} {enc : TypeId × Value → H} (W : World) (base : Nat)
    (v0 : Value) (d0 : DataW H) (p0 : List MemPlace) (k0 : Value.okWide Try.prog W .any base 31 v0) (h0 : DataW.Trod enc Try.prog W 0 (fun _ => true) true 31 v0 d0 p0)
    (v1 : Value) (d1 : DataW H) (p1 : List MemPlace) (k1 : Value.okWide Try.prog W .any base 28 v1) (h1 : DataW.Trod enc Try.prog W 0 (fun _ => true) true 28 v1 d1 p1) :
    Calls Try.prog 10 #[v0, v1] W fun e w' => e = .returned (.bool true) ∧ Below W.heap.size W w' := by
  obtain ⟨x, rfl, ok⟩ := open_call k0 h0
  obtain ⟨a, rfl, rfl, rfl, w1⟩ := open_int Try.underlying28 k1 h1
  have b1 := bounds_u64 w1
  obtain ⟨n, rfl⟩ := Int.eq_ofNat_of_zero_le b1.1
  obtain ⟨c, m, k, v⟩ := x
  obtain ⟨o1, o2, o3, o4⟩ := ok
  simp only at o1 o2 o3 o4 ⊢
  by_cases hc : c % 4 = 1
  · exact (order_walk0 c (0, m, k, v) n W ⟨by simp, o2, o3, o4⟩ (by omega) rfl (by rw [hc]; rfl) o1.1 o1.2 (by show (0 : Int).toNat % 4 ≠ 1; decide)).mono fun e w' ⟨he, ho⟩ => ⟨he, ho.below (Nat.le_refl _) (by simp)⟩
  · exact (order_walk (c, m, k, v) n W ⟨o1, o2, o3, o4⟩ (by omega) (by rw [beq_eq_false_iff_ne]; exact hc) (by show c.toNat % 4 ≠ 1; omega)).mono fun e w' ⟨he, ho⟩ => ⟨he, ho.below (Nat.le_refl _) (by simp)⟩
end Go.Proofs.Ytgfcooaobfpdiaa

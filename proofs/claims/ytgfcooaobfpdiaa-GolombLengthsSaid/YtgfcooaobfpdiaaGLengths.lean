/- GolombLengths: codes have as many bits as the document says. -/
import Derived.Test.YtgfcooaobfpdiaaAp
import Derived.Test.YtgfcooaobfpdiaaGBack
import Derived.Test.YtgfcooaobfpdiaaQuiet
import Derived.BigQuiet
namespace Go.Proofs.Ytgfcooaobfpdiaa
open Go.RowKit
set_option linter.unusedVariables false

theorem bitLen_next (q : Nat) (h : q ≠ 0) (hq : q < 4294967296) : Lib.bitLen q = Lib.bitLen (q / 2) + 1 := by
  rw [Lib.bitLen_half q h (by have : (2 : Nat) ^ 64 = 18446744073709551616 := by decide
                              omega), Nat.add_comm]
theorem bitLen_zero : Lib.bitLen 0 = 0 := by decide

/-- Two writers of the program, in one world. -/
structure TwoW (w0 : World) (c q : Nat) (w : World) (sv sq : Value) (l m : List Bool) : Prop where
  wr : Wr w c sv l
  wq : Wr w q sq m
  ow : ∀ g, g ∈ ownOf sv → w0.heap.size ≤ g ∧ g ≠ q ∧ g ∉ ownOf sq
  oq : ∀ g, g ∈ ownOf sq → w0.heap.size ≤ g ∧ g ≠ c
  ne : c ≠ q
  hc : w0.heap.size ≤ c
  hq : w0.heap.size ≤ q
  only : Only [] w0 w
theorem TwoW.keep {w0 : World} {c q : Nat} {w w' : World} {sv sq : Value} {l m : List Bool} (h : TwoW w0 c q w sv sq l m) (k : Only [] w w') : TwoW w0 c q w' sv sq l m :=
  ⟨h.wr.only k (by simp) (by simp), h.wq.only k (by simp) (by simp), h.ow, h.oq, h.ne, h.hc, h.hq, h.only.trans k⟩
theorem TwoW.put {w0 : World} {c q : Nat} {w w' : World} {sv sq : Value} {l m : List Bool} (h : TwoW w0 c q w sv sq l m) {sv' : Value} {l' : List Bool} (p : PutLeft w w' c sv sv' l') : TwoW w0 c q w' sv' sq l' m :=
  ⟨p.wr, h.wq.only p.only (fun e => by rcases List.mem_cons.1 e with e | e; exact h.ne e.symm; exact (h.ow q e).2.1 rfl) (fun g hg e => by rcases List.mem_cons.1 e with e | e; exact (h.oq g hg).2 e; exact (h.ow g e).2.2 hg),
    fun g hg => by
      rcases p.own g hg with e | e
      · exact h.ow g e
      · exact ⟨Nat.le_trans h.only.size e, fun e2 => Nat.not_lt.2 (e2 ▸ e) h.wq.lt, fun e2 => Nat.not_lt.2 e (h.wq.row.lt g e2)⟩,
    h.oq, h.ne, h.hc, h.hq, h.only.trans2 p.only (fun x hx => .inr (by rcases List.mem_cons.1 hx with e | e; rw [e]; exact h.hc; exact (h.ow x e).1))⟩
theorem TwoW.qput {w0 : World} {c q : Nat} {w w' : World} {sv sq : Value} {l m : List Bool} (h : TwoW w0 c q w sv sq l m) {sq' : Value} {m' : List Bool} (p : PutLeft w w' q sq sq' m') : TwoW w0 c q w' sv sq' l m' :=
  ⟨h.wr.only p.only (fun e => by rcases List.mem_cons.1 e with e | e; exact h.ne e; exact (h.oq c e).2 rfl) (fun g hg e => by rcases List.mem_cons.1 e with e | e; exact (h.ow g hg).2.1 e; exact (h.ow g hg).2.2 e), p.wr,
    fun g hg => ⟨(h.ow g hg).1, (h.ow g hg).2.1, fun e => by
      rcases p.own g e with e2 | e2
      · exact (h.ow g hg).2.2 e2
      · exact Nat.not_lt.2 e2 (h.wr.row.lt g hg)⟩,
    fun g hg => by
      rcases p.own g hg with e | e
      · exact h.oq g e
      · exact ⟨Nat.le_trans h.only.size e, fun e2 => Nat.not_lt.2 (e2 ▸ e) h.wr.lt⟩,
    h.ne, h.hc, h.hq, h.only.trans2 p.only (fun x hx => .inr (by rcases List.mem_cons.1 hx with e | e; rw [e]; exact h.hq; exact (h.oq x e).1))⟩

theorem se_len (h : Nat) (hh : h ≤ 2147483647) : (ueBits (seNum (h : Int))).length = (ueBits (seNum (-(h : Int)))).length := by
  by_cases h0 : h = 0
  · subst h0; rfl
  · rw [length_ueBits, length_ueBits]
    have e1 : seNum (h : Int) + 1 = 2 * h := by unfold seNum; rw [if_pos (by omega)]; omega
    have e2 : seNum (-(h : Int)) + 1 = 2 * h + 1 := by unfold seNum; rw [if_neg (by omega)]; omega
    rw [e1, e2, bitLen_next (2 * h) (by omega) (by omega), bitLen_next (2 * h + 1) (by omega) (by omega)]
    rw [show 2 * h / 2 = h from by omega, show (2 * h + 1) / 2 = h from by omega]
theorem se_diff (h : Nat) (hh : h ≤ 2147483647) (h0 : h ≠ 0) : ueBits (seNum (h : Int)) ≠ ueBits (seNum (-(h : Int))) := by
  intro e
  have e1 : seNum (h : Int) = 2 * h - 1 := by unfold seNum; rw [if_pos (by omega)]; omega
  have e2 : seNum (-(h : Int)) = 2 * h := by unfold seNum; rw [if_neg (by omega)]; omega
  have b := begins_pack (ueBits (seNum (h : Int))) [] []
  have r1 := read_ue (by omega) b
  rw [e] at b
  have r2 := read_ue (by omega) b
  rw [e] at r1
  rw [r1] at r2
  simp only [Prod.mk.injEq] at r2
  omega

/-- The cells of a call. -/
def Cells4 (w : World) (p : Nat) (a b c d : Int) : Prop :=
  w.cell? ⟨p, 0, none⟩ = some (.int .u8 a) ∧ w.cell? ⟨p, 1, none⟩ = some (.int .u64 b) ∧ w.cell? ⟨p, 2, none⟩ = some (.int .i64 c) ∧ w.cell? ⟨p, 3, none⟩ = some (.int .u64 d)
theorem keep4 {W w : World} {p : Nat} {a b c d : Int} (h : CallIn W p a b c d) (o : Only [] W w) :
    w.cell? ⟨p, 0, none⟩ = some (.int .u8 a) ∧ w.cell? ⟨p, 1, none⟩ = some (.int .u64 b) ∧ w.cell? ⟨p, 2, none⟩ = some (.int .i64 c) ∧ w.cell? ⟨p, 3, none⟩ = some (.int .u64 d) :=
  ⟨o.cell h.x0 (by simp), o.cell h.x1 (by simp), o.cell h.x2 (by simp), o.cell h.x3 (by simp)⟩

set_option maxRecDepth 100000 in
set_option maxHeartbeats 8000000 in
theorem lengths_walk (v : Nat) (k : Int) (w : World) (hv : v ≤ 18446744073709551615) (hk : -9223372036854775808 ≤ k ∧ k ≤ 9223372036854775807) :
    Calls Try.prog 8 #[.int .u64 v, .int .i64 k] w fun e w' => e = .returned (.bool true) ∧ Only [] w w' := by
  have ok : CallOk (3, 0, k, (v : Int)) := ⟨by simp, by simp, hk, Int.natCast_nonneg _, by show (v : Int) ≤ _; omega⟩
  have F1 := hid (fun w => fit_call (3, 0, k, (v : Int)) w ok)
  have oc := okX (3, 0, k, (v : Int))
  rw [show cN (3, 0, k, (v : Int)) = 3 from rfl, show mN (3, 0, k, (v : Int)) = 0 from rfl] at F1 oc
  generalize vN (3, 0, k, (v : Int)) = V at *
  generalize kN (3, 0, k, (v : Int)) = K at *
  rw [show ((3 : Nat) : Int) = 3 from rfl, show ((0 : Nat) : Int) = 0 from rfl] at F1
  have hK := oc.kk
  obtain ⟨Q, hQ⟩ : ∃ Q, Q = V / 2 ^ K := ⟨_, rfl⟩
  have hQ2 : Q ≤ 4294967294 := by rw [hQ]; exact oc.uk (by decide)
  have okQ : CallOk (0, 0, 0, (Q : Int)) := ⟨by simp, by simp, by simp, Int.natCast_nonneg _, by show (Q : Int) ≤ _; omega⟩
  have F2 := hid (fun w => fit_call (0, 0, 0, (Q : Int)) w okQ)
  have ocQ := okX (0, 0, 0, (Q : Int))
  have hvQ : vN (0, 0, 0, (Q : Int)) = Q := by
    unfold vN fitV
    rw [if_pos (.inl rfl)]
    show (Q : Int).toNat % 4294967295 = Q
    rw [Int.toNat_natCast]
    exact Nat.mod_eq_of_lt (by omega)
  rw [show cN (0, 0, 0, (Q : Int)) = 0 from rfl, show mN (0, 0, 0, (Q : Int)) = 0 from rfl, show kN (0, 0, 0, (Q : Int)) = 0 from rfl, hvQ] at F2 ocQ
  rw [show ((0 : Nat) : Int) = 0 from rfl] at F2
  have D1 := hid (fun w => code_any 3 0 K V w (by omega) oc)
  have D2 := hid (fun w => code_any 0 0 0 Q w (by omega) ocQ)
  rw [show ((3 : Nat) : Int) = 3 from rfl, show ((0 : Nat) : Int) = 0 from rfl] at D1
  rw [show ((0 : Nat) : Int) = 0 from rfl] at D2
  obtain ⟨L, hL⟩ : ∃ L, L = Lib.bitLen (Q + 1) := ⟨_, rfl⟩
  obtain ⟨b1, b2, _, _⟩ := bitLen_mid (Q + 1) (by omega) (by have : (2 : Nat) ^ 32 = 4294967296 := by decide
                                                             omega)
  have s1 : (chars (codeOf 3 0 K V)).size = 2 * L - 1 + K := by
    rw [size_chars, show codeOf 3 0 K V = ukBits K V from rfl, length_ukBits, ← hQ, ← hL]
  have s2 : (chars (codeOf 0 0 0 Q)).size = 2 * L - 1 := by
    rw [size_chars, show codeOf 0 0 0 Q = ueBits Q from rfl, length_ueBits, ← hL]
  rw [← hL] at b1 b2
  have e1 : ((chars (codeOf 3 0 K V)).size : Int) = 2 * (L : Int) - 1 + (K : Int) := by omega
  have e2 : ((chars (codeOf 0 0 0 Q)).size : Int) = 2 * (L : Int) - 1 := by omega
  generalize chars (codeOf 3 0 K V) = cs1 at *
  generalize chars (codeOf 0 0 0 Q) = cs2 at *
  have hvq : (V : Int) / 2 ^ K = (Q : Int) := by rw [hQ, Int.natCast_ediv, Int.natCast_pow]; rfl
  have hV64 := oc.lt64
  have E1 := hid e1
  have E2 := hid e2
  have LL := hid hL
  have k1 : (K : Int) ≤ 8 := by omega
  have k2 : (L : Int) ≤ 32 := by omega
  have k3 : 1 ≤ (L : Int) := by omega
  have k4 : (Q : Int) ≤ 4294967294 := by omega
  have k5 : (V : Int) ≤ 18446744073709551615 := by omega
  have VQ := hid hvq
  have OC := hid oc
  clear ok okQ oc ocQ hvQ hQ s1 s2 e1 e2 hL hV64 b1 b2
  go_enter Try.func8, Try.ntmps8
  go_wp2_with fail
  refine (F1.out _).mono ?_
  rintro e w1 ⟨rfl, ho1⟩
  go_wp2_with fail
  have I0 := CallIn.new w1 31 3 0 (K : Int) (V : Int)
  have OW := hid (show Only [] w (w1.alloc (.cells #[.int .u8 3, .int .u64 0, .int .i64 K, .int .u64 V] 31)) from ho1.alloc _)
  generalize World.alloc w1 _ = W at I0 OW ⊢
  generalize w1.heap.size = b5 at *
  have I5 := hid I0
  clear I0 ho1 hvq
  go_loopg [6, 7] L (fun g n q wr => ∃ (j t : Nat), n = .int .i64 j ∧ q = .int .u64 t ∧ j + g = L ∧ Lib.bitLen t = g ∧ t ≤ 4294967295 ∧ wr = W)
  case atStart => exact ⟨0, Q + 1, rfl, by go_num, by omega, LL.out.symm, by omega, rfl⟩
  case round =>
    obtain ⟨j, t, rfl, rfl, hj, ht, htl, rfl⟩ := hrel
    by_cases h0 : t = 0
    · subst h0
      obtain rfl : j = L := by rw [bitLen_zero] at ht; omega
      clear hj ht htl
      have e1 := E1.out
      have e2 := E2.out
      have hvq := VQ.out
      go_wp2_with fail
      have c0 : ∀ x : OnlyOf wr, x.at.cell? ⟨b5, 0, none⟩ = some (.int .u8 3) := fun x => (keep4 I5.out x.only).1
      have c1 : ∀ x : OnlyOf wr, x.at.cell? ⟨b5, 1, none⟩ = some (.int .u64 0) := fun x => (keep4 I5.out x.only).2.1
      have c2 : ∀ x : OnlyOf wr, x.at.cell? ⟨b5, 2, none⟩ = some (.int .i64 K) := fun x => (keep4 I5.out x.only).2.2.1
      have c3 : ∀ x : OnlyOf wr, x.at.cell? ⟨b5, 3, none⟩ = some (.int .u64 V) := fun x => (keep4 I5.out x.only).2.2.2
      refine wp_region_only (by kernel_rfl) (by kernel_rfl) ?_
      repeat (go_big_quiet_step ((first
        | (go_at_call 42; with_reducible exact Calls.only_of (D1.out _))
        | (go_at_call 42; with_reducible exact Calls.only_of (D2.out _))
        | (go_at_call 39; with_reducible exact Calls.only_of (F2.out _)))))
      refine wpQuiet_nil ?_
      rintro _ ⟨y8, rfl⟩
      have O8 := hid (OW.out.trans y8.only)
      generalize y8.at = w8 at O8 ⊢
      clear c0 c1 c2 c3 e1 e2
      obtain ⟨h, hh⟩ : ∃ h : Nat, h = v % 2147483648 := ⟨_, rfl⟩
      have hvh : (v : Int) % 2147483648 = (h : Int) := by omega
      have hh1 : h ≤ 2147483647 := by omega
      have hh2 : (h : Int) ≤ 2147483647 := by omega
      have P1 := hid (fun c sv w h' => putse_any c sv [] (h : Int) w h' (by decide))
      have P2 := hid (fun c sv w h' => putse_any c sv [] (-(h : Int)) w h' (by decide))
      rw [show wrSe [] (h : Int) = (0, ueBits (seNum (h : Int))) from by unfold wrSe; rw [if_neg (by omega), List.nil_append]] at P1
      rw [show wrSe [] (-(h : Int)) = (0, ueBits (seNum (-(h : Int)))) from by unfold wrSe; rw [if_neg (by omega), List.nil_append]] at P2
      have SL := se_len h hh1
      have hB : ((chars (ueBits (seNum (h : Int)))).toList == (chars (ueBits (seNum (-(h : Int))))).toList) = ((h : Int) == 0) := by
        rw [chars_eqB]
        by_cases h0 : h = 0
        · subst h0; rfl
        · rw [decide_eq_false (se_diff h hh1 h0)]
          symm; rw [beq_eq_false_iff_ne]; omega
      generalize ueBits (seNum (h : Int)) = l1 at *
      generalize ueBits (seNum (-(h : Int))) = l2 at *
      have SL := hid SL
      have HB := hid hB
      have LA := hid (fun c sv w h => len_any c sv l1 w h)
      have LB := hid (fun c sv w h => len_any c sv l2 w h)
      rw [SL.out] at LA
      have BA := hid (fun c sv w h => bits_any c sv l1 w h)
      have BB := hid (fun c sv w h => bits_any c sv l2 w h)
      clear hh hh1 hvq hB SL
      go_wp2_with fail
      refine (write_any _).mono ?_
      rintro e w9 ⟨rfl, hw9, ho9⟩
      go_wp2_with fail
      refine (write_any _).mono ?_
      rintro e w10 ⟨rfl, hw10, ho10⟩
      have n1 : w.heap.size ≤ w8.heap.size := O8.out.size
      have n2 := ho9.size
      have n3 := hw9.lt
      have T := hid (show TwoW w w8.heap.size w9.heap.size w10 _ _ [] [] from ⟨hw9.only ho10 (by simp) (by simp), hw10, by simp [ownOf, Value.ownBlock], by simp [ownOf, Value.ownBlock], by omega, by omega, by omega, (O8.out.trans ho9).trans ho10⟩)
      generalize w9.heap.size = q at *
      generalize w8.heap.size = c at *
      clear hw9 ho9 hw10 ho10 n1 n2 n3
      go_wp2_with fail
      refine (P1.out c _ w10 T.out.wr).mono ?_
      rintro e w11 ⟨rfl, sv11, hp11⟩
      have T11 := hid (T.out.put hp11)
      clear hp11
      go_wp2_with fail
      refine (P2.out q _ w11 T11.out.wq).mono ?_
      rintro e w12 ⟨rfl, sv12, hp12⟩
      have T12 := hid (T11.out.qput hp12)
      clear hp12
      go_wp2_with fail
      refine (LA.out c _ w12 T12.out.wr).mono ?_
      rintro e w13 ⟨rfl, n13, rfl⟩
      have T13 := hid (T12.out.keep ((Only.refl [] w12).drewN n13))
      generalize World.drewN _ n13 = w13 at *
      go_wp2_with fail
      refine (LB.out q _ w13 T13.out.wq).mono ?_
      rintro e w14 ⟨rfl, n14, rfl⟩
      have T14 := hid (T13.out.keep ((Only.refl [] w13).drewN n14))
      generalize World.drewN _ n14 = w14 at *
      go_wp2_with fail
      refine (BA.out c _ w14 T14.out.wr).mono ?_
      rintro e w15 ⟨rfl, ho15⟩
      have T15 := hid (T14.out.keep ho15)
      clear ho15
      go_wp2_with fail
      refine (BB.out q _ w15 T15.out.wq).mono ?_
      rintro e w16 ⟨rfl, ho16⟩
      have T16 := hid (T15.out.keep ho16)
      have hB := HB.out
      generalize chars l1 = d1 at *
      generalize chars l2 = d2 at *
      clear ho16
      go_wp2_with fail
      refine (known_any _).mono ?_
      rintro e w17 ⟨rfl, ho17⟩
      go_wp2_with fail
      go_ret
      exact ⟨rfl, T16.out.only.trans ho17⟩
    · obtain ⟨g, rfl⟩ : ∃ g, gk = g + 1 := ⟨gk - 1, by rw [bitLen_next t h0 (by omega)] at ht; omega⟩
      have hg : Lib.bitLen (t / 2) = g := by rw [bitLen_next t h0 (by omega)] at ht; omega
      have t0 : 0 < (t : Int) := by omega
      have t1 : (t : Int) ≤ 4294967295 := by omega
      have j1 : (j : Int) ≤ 32 := by omega
      have HJ := hid hj
      have HG := hid hg
      clear hj ht htl h0 hg
      go_wp2_with fail
      go_roundg g
      case measure => omega
      case rel => exact ⟨j + 1, t / 2, by go_num, by rw [Int.natCast_ediv]; rfl, by have := HJ.out; omega, HG.out, by omega, rfl⟩

open Go.ChangeShapes Go.WideShapes Go.ChangeAt
theorem golombLengths_core {H : Type} {enc : TypeId × Value → H} (W : World) (base : Nat)
    (v0 : Value) (d0 : DataW H) (p0 : List MemPlace) (k0 : Value.okWide Try.prog W .any base 28 v0) (h0 : DataW.Trod enc Try.prog W 0 (fun _ => true) true 28 v0 d0 p0)
    (v1 : Value) (d1 : DataW H) (p1 : List MemPlace) (k1 : Value.okWide Try.prog W .any base 3 v1) (h1 : DataW.Trod enc Try.prog W 0 (fun _ => true) true 3 v1 d1 p1) :
    Calls Try.prog 8 #[v0, v1] W fun e w' => e = .returned (.bool true) ∧ Below W.heap.size W w' := by
  obtain ⟨a, rfl, rfl, rfl, w1⟩ := open_int Try.underlying28 k0 h0
  obtain ⟨b, rfl, rfl, rfl, w2⟩ := open_int Try.underlying3 k1 h1
  have b1 := bounds_u64 w1
  have b2 := bounds_i64 w2
  obtain ⟨n, rfl⟩ := Int.eq_ofNat_of_zero_le b1.1
  exact (lengths_walk n b W (by omega) b2).mono fun e w' ⟨he, ho⟩ => ⟨he, ho.below (Nat.le_refl _) (by simp)⟩
end Go.Proofs.Ytgfcooaobfpdiaa

/- GolombComplete: whatever bits there are, codes are read from them, and written again with the bits that were read. -/
import Derived.Test.YtgfcooaobfpdiaaKn2
import Derived.Test.YtgfcooaobfpdiaaSt
import Derived.Deep.DeepCutAuto
import Derived.Deep.LoopGhost
import Derived.Deep.CutBlock
import Derived.OpenShut
import Derived.ProofKit
namespace Go.Proofs.Ytgfcooaobfpdiaa
open Go.RowKit
set_option linter.unusedVariables false

theorem St.aside {w0 : World} {r c x : Nat} {s : ByteArray} {w w' : World} {pos : Nat} {sv : Value} {l : List Bool} (h : St w0 r c s w pos sv l) (k : Only [x] w w') (hx : w0.heap.size ≤ x) (h1 : x ≠ r) (h2 : x ≠ c) (h3 : x ∉ ownOf sv) : St w0 r c s w' pos sv l :=
  ⟨h.rd.only k (fun e => h1 (List.mem_singleton.1 e).symm), h.wr.only k (fun e => h2 (List.mem_singleton.1 e).symm) (fun g hg e => h3 (List.mem_singleton.1 e ▸ hg)), h.own, h.rown, h.ne, h.hr, h.hc,
    h.only.trans2 k (fun y hy => .inr (by rw [List.mem_singleton.1 hy]; exact hx))⟩

theorem lead_form {s : ByteArray} {pos f : Nat} : (lead s pos f).2 = 5 → (lead s pos f).1 < f ∧ 8 * s.size ≤ pos + (lead s pos f).1 := by
  induction f generalizing pos with
  | zero => simp [lead]
  | succ f ih =>
    unfold lead
    split
    · simp; omega
    · split
      · simp
      · intro h
        have := ih (pos := pos + 1) h
        simp only
        omega
theorem lead_end {s : ByteArray} {pos f : Nat} : (lead s pos f).2 = 5 → pos ≤ 8 * s.size → pos + (lead s pos f).1 = 8 * s.size := by
  induction f generalizing pos with
  | zero => simp [lead]
  | succ f ih =>
    unfold lead
    split
    · intro _ h; simp; omega
    · split
      · simp
      · intro h hp
        have := ih (pos := pos + 1) h (by omega)
        simp only
        omega
theorem lead_four {s : ByteArray} {pos f : Nat} : (lead s pos f).2 = 4 → (lead s pos f).1 = f := by
  induction f generalizing pos with
  | zero => simp [lead]
  | succ f ih =>
    unfold lead
    split
    · simp
    · split
      · simp
      · intro h
        have := ih (pos := pos + 1) h
        simp only
        omega
/-- What the bits say of the next code. -/
theorem lead_cases (s : ByteArray) (pos : Nat) (h : pos ≤ 8 * s.size) :
    (∃ n, (lead s pos 32).1 = n ∧ n ≤ 31 ∧ 8 * s.size < pos + (2 * n + 1) ∧ rdUk s pos 0 = (0, 5, pos)) ∨ ((lead s pos 32).1 = 32 ∧ rdUk s pos 0 = (0, 4, pos)) ∨
    (∃ n x, (lead s pos 32).1 = n ∧ n ≤ 31 ∧ pos + (2 * n + 1) ≤ 8 * s.size ∧ x ≤ 4294967294 ∧ rdUk s pos 0 = (x, 0, pos + (2 * n + 1)) ∧ (ueBits x).length = 2 * n + 1 ∧ ∀ j, j < 2 * n + 1 → bitL (ueBits x) j = bitAt s (pos + j)) := by
  rcases lead_err s pos 32 with e | e | e
  · obtain ⟨_, _, c, d⟩ := lead_yes e
    by_cases h1 : 8 * s.size < pos + (2 * (lead s pos 32).1 + 1)
    · exact .inl ⟨_, rfl, by omega, h1, by unfold rdUk; rw [if_neg (by simp [e]), if_pos (by omega)]⟩
    · refine .inr (.inr ⟨(lead s pos 32).1, valOf s pos (2 * (lead s pos 32).1 + 1) - 1, rfl, by omega, by omega, ?_, ?_, ?_⟩)
      · have ev := valOf_code e (lead s pos 32).1
        rw [show (lead s pos 32).1 + (1 + (lead s pos 32).1) = 2 * (lead s pos 32).1 + 1 from by omega] at ev
        rw [ev]
        have := valOf_lt s (pos + (lead s pos 32).1 + 1) (lead s pos 32).1
        have : 2 ^ (lead s pos 32).1 ≤ 2 ^ 31 := Nat.pow_le_pow_right (by omega) (by omega)
        have : (2 : Nat) ^ 31 = 2147483648 := by decide
        omega
      · unfold rdUk
        rw [if_neg (by simp [e]), if_neg (by omega)]
        simp [valOf]
      · have ev := valOf_code e (lead s pos 32).1
        rw [show (lead s pos 32).1 + (1 + (lead s pos 32).1) = 2 * (lead s pos 32).1 + 1 from by omega] at ev
        have hl := valOf_lt s (pos + (lead s pos 32).1 + 1) (lead s pos 32).1
        have hp : 2 ^ (lead s pos 32).1 ≤ 2 ^ 31 := Nat.pow_le_pow_right (by omega) (by omega)
        have hp0 : 0 < 2 ^ (lead s pos 32).1 := Nat.pow_pos (by omega)
        have p31 : (2 : Nat) ^ 31 = 2147483648 := by decide
        have p32 : (2 : Nat) ^ 32 = 4294967296 := by decide
        have hx1 : valOf s pos (2 * (lead s pos 32).1 + 1) - 1 + 1 = valOf s pos (2 * (lead s pos 32).1 + 1) := by omega
        have hlen : Lib.bitLen (valOf s pos (2 * (lead s pos 32).1 + 1)) = (lead s pos 32).1 + 1 := by
          obtain ⟨b1, b2, b3, b4⟩ := bitLen_mid (valOf s pos (2 * (lead s pos 32).1 + 1)) (by omega) (by omega)
          generalize Lib.bitLen (valOf s pos (2 * (lead s pos 32).1 + 1)) = L at *
          have g1 : 2 ^ (lead s pos 32).1 < 2 ^ L := Nat.lt_of_le_of_lt (by omega) b4
          have g2 : 2 ^ (L - 1) < 2 ^ ((lead s pos 32).1 + 1) := Nat.lt_of_le_of_lt b3 (by rw [ev, Nat.pow_succ]; omega)
          have g1' := (Nat.pow_lt_pow_iff_right (by omega : 1 < 2)).1 g1
          have g2' := (Nat.pow_lt_pow_iff_right (by omega : 1 < 2)).1 g2
          omega
        unfold ueBits
        rw [hx1, hlen, show 2 * ((lead s pos 32).1 + 1) - 1 = 2 * (lead s pos 32).1 + 1 from by omega]
        refine ⟨length_bitsOf _ _, fun j hj => ?_⟩
        rw [bitL_bitsOf, decide_eq_true hj, Bool.true_and, valOf_eq]
        exact valF_bit _ _ _ _ hj
  · have := lead_four e
    exact .inr (.inl ⟨this, by unfold rdUk; rw [if_pos (by rw [e]; decide), e]⟩)
  · have h1 := lead_form e
    have h2 := lead_end e h
    exact .inl ⟨_, rfl, by omega, by omega, by unfold rdUk; rw [if_pos (by rw [e]; decide), e]⟩

/-- The writer has the bits that were read. -/
def Same (s : ByteArray) (pos : Nat) (l : List Bool) : Prop := l.length = pos ∧ ∀ i, i < pos → bitL l i = bitAt s i
theorem Same.more {s : ByteArray} {pos n x : Nat} {l : List Bool} (h : Same s pos l) (hl : (ueBits x).length = n) (hb : ∀ j, j < n → bitL (ueBits x) j = bitAt s (pos + j)) : Same s (pos + n) (l ++ ueBits x) := by
  obtain ⟨h1, h2⟩ := h
  refine ⟨by rw [List.length_append, h1, hl], fun i hi => ?_⟩
  rw [bitL_append, h1]
  by_cases e : i < pos
  · rw [if_pos e]; exact h2 i e
  · rw [if_neg e, hb _ (by omega)]; congr 1; omega

set_option maxRecDepth 100000 in
set_option maxHeartbeats 6000000 in
theorem complete_walk (s : ByteArray) (w : World) (hs : s.size ≤ maxLen) :
    Calls Try.prog 9 #[.string s] w fun e w' => e = .returned (.bool true) ∧ Only [] w w' := by
  unfold maxLen at hs
  by_cases h0 : 60 < s.size
  · have h0' : (60 : Int) < (s.size : Int) := by omega
    clear h0
    go_enter Try.func9, Try.ntmps9
    go_wp2_with (go_at_call 11; refine (known_any _).mono ?_; rintro e w1 ⟨rfl, ho1⟩)
    go_ret
    exact ⟨rfl, ho1⟩
  · have h1 : (s.size : Int) ≤ 60 := by omega
    clear h0 hs
    go_enter Try.func9, Try.ntmps9
    go_wp2_with fail
    refine (read_any s w (by omega)).mono ?_
    rintro e w1 ⟨rfl, hr1, ho1⟩
    go_wp2_with fail
    refine (write_any w1).mono ?_
    rintro e w2 ⟨rfl, hw2, ho2⟩
    have hlt := hr1.lt
    have S2 := hid (show St w w.heap.size w1.heap.size s w2 0 _ [] from ⟨hr1.only ho2 (by simp), hw2, by simp [ownOf, Value.ownBlock], by simp [ownOf, Value.ownBlock], by omega, by omega, by omega, ho1.trans ho2⟩)
    generalize w1.heap.size = c at *
    generalize hr : w.heap.size = r at *
    clear hr1 ho1 hw2 ho2 hlt hr
    go_wp2_with fail
    go_loopg [5] (8 * s.size + 1) (fun g z wr => ∃ (pos : Nat) (sv : Value) (l : List Bool), pos + g = 8 * s.size + 1 ∧ Same s pos l ∧ St w r c s wr pos sv l)
    case atStart => exact ⟨0, _, [], by omega, ⟨rfl, by omega⟩, S2.out⟩
    case round =>
      obtain ⟨pos, sv, l, hp, hSm, hS⟩ := hrel
      have S := hid hS
      have SM := hid hSm
      have J := hid hp
      have hle := hS.rd.le
      clear hS hSm hp
      obtain ⟨L, hL⟩ : ∃ L, L = lead s pos 32 := ⟨_, rfl⟩
      have LL := hid hL
      clear hL
      go_wp2_with fail
      refine (copy_any r s pos wr S.out.rd).mono ?_
      rintro e w3 ⟨rfl, hc3, ho3⟩
      have S3 := hid (S.out.keep ho3)
      have C3 := hid hc3
      have x1 : wr.heap.size ≠ r := by have := S.out.rd.lt; omega
      have x2 : wr.heap.size ≠ c := by have := S.out.wr.lt; omega
      have x3 : wr.heap.size ∉ ownOf sv := fun h => by have := S.out.wr.row.lt _ h; omega
      have x4 : w.heap.size ≤ wr.heap.size := S.out.only.size
      generalize wr.heap.size = cb at *
      have X3 := hid x3
      clear hc3 ho3 x3
      go_upto_block 2 with fail
      go_cut [5, 7, 8] from 28 to 42 (fun z _ _ wx => z = .int .i64 (L.1 : Nat) ∧ St w r c s wx pos sv l)
      case first =>
        go_wp2_with fail
        go_loopg [5] 32 (fun g i wr => ∃ n : Nat, n + g = 32 ∧ i = .int .i64 n ∧ Rd wr cb s (pos + n) ∧ St w r c s wr pos sv l ∧ L.1 = n + (lead s (pos + n) g).1)
        case atStart => exact ⟨0, by omega, rfl, C3.out, S3.out, by rw [LL.out, Nat.zero_add]; rfl⟩
        case round =>
          obtain ⟨n, hn, rfl, hR, hS, h2⟩ := hrel
          have R := hid hR
          have S4 := hid hS
          have H2 := hid h2
          have N := hid hn
          clear hR hS h2
          by_cases hg : gk = 0
          · subst hg
            obtain rfl : n = 32 := by omega
            clear hn
            go_wp2_with fail
            go_meet
            exact ⟨by have e := H2.out; simp only [lead] at e; rw [e]; rfl, S4.out⟩
          · obtain ⟨g, rfl⟩ : ∃ g, gk = g + 1 := ⟨gk - 1, by omega⟩
            have hn1 : (n : Int) < 32 := by omega
            clear hn hg
            obtain ⟨q, hq⟩ : ∃ q, q = pos + n := ⟨_, rfl⟩
            have Q := hid hq
            rw [← hq] at R
            have e2 := H2.out
            rw [← hq] at e2
            clear hq
            have B := hid (bit_any cb s q wr R.out)
            by_cases hs : 8 * s.size ≤ q
            · have e : rdU s q 1 = (0, 5, q) := by unfold rdU; rw [if_neg (by omega), if_pos (by simp; omega)]
              rw [e] at B
              simp only [lead, if_pos hs] at e2
              have E2 := hid e2
              clear hs e e2
              go_wp2_with fail
              refine B.out.mono ?_
              rintro e w5 ⟨rfl, hR, hO⟩
              have S5 := hid (S4.out.aside hO x4 x1 x2 X3.out)
              clear hR hO
              go_wp2_with fail
              go_meet
              exact ⟨by rw [E2.out]; rfl, S5.out⟩
            · have e : rdU s q 1 = ((bitAt s q).toNat, 0, q + 1) := by
                unfold rdU; rw [if_neg (by omega), if_neg (by simp; omega)]
                simp [valOf]
              rw [e] at B
              simp only [lead, if_neg hs] at e2
              cases hb : bitAt s q with
              | true =>
                rw [hb] at B e2
                simp only [if_true] at e2
                have E2 := hid e2
                clear hs e e2 hb
                go_wp2_with fail
                refine B.out.mono ?_
                rintro e w5 ⟨rfl, hR, hO⟩
                have S5 := hid (S4.out.aside hO x4 x1 x2 X3.out)
                clear hR hO
                go_wp2_with fail
                go_meet
                exact ⟨by rw [E2.out]; rfl, S5.out⟩
              | false =>
                rw [hb] at B e2
                simp only [Bool.false_eq_true, if_false] at e2
                have E2 := hid e2
                clear hs e e2 hb
                go_wp2_with fail
                refine B.out.mono ?_
                rintro e w5 ⟨rfl, hR, hO⟩
                have S5 := hid (S4.out.aside hO x4 x1 x2 X3.out)
                have R5 := hid hR
                clear hR hO
                go_wp2_with fail
                go_roundg g
                case measure => omega
                case rel => exact ⟨n + 1, by have := N.out; omega, by go_num, by rw [← Nat.add_assoc, ← Q.out]; exact R5.out, S5.out, by rw [← Nat.add_assoc, ← Q.out, E2.out]; omega⟩
      case rest =>
        obtain ⟨rfl, hS5⟩ := hcut
        have S5 := hid hS5
        clear hS5
        have KC := lead_cases s pos hle
        rw [← LL.out] at KC
        have UE := hid (fun w h => ue_any r s pos w h)
        rcases KC with ⟨n, hn, hn31, hsh, hrd⟩ | ⟨hn, hrd⟩ | ⟨n, x, hn, hn31, hlg, hx, hrd, hxl, hxb⟩
        · rw [hrd] at UE
          have e1 : ((n : Int) == 32) = false := by rw [beq_eq_false_iff_ne]; omega
          have e2 : (n : Int) < 32 := by omega
          have e3 : 8 * (s.size : Int) - (pos : Int) < 2 * (n : Int) + 1 := by omega
          rw [hn]
          clear hn hn31 hsh hrd
          go_wp2_with fail
          refine (left_any r s pos _ S5.out.rd).mono ?_
          rintro e w6 ⟨rfl, n6, rfl⟩
          have S6 := hid (S5.out.drewN n6)
          generalize World.drewN _ n6 = w6 at *
          have UE6 := hid (UE.out w6 S6.out.rd)
          go_wp2_with fail
          refine UE6.out.mono ?_
          rintro e w7 ⟨rfl, hR7, hO7⟩
          have S7 := hid (S6.out.read hR7 hO7)
          clear hR7 hO7
          go_wp2_with fail
          refine (read_any s w7 (by omega)).mono ?_
          rintro e w8 ⟨rfl, hn8, ho8⟩
          have S8 := hid (S7.out.keep ho8)
          have N8 := hid hn8
          have n1 : w.heap.size ≤ w7.heap.size := S7.out.only.size
          have hnr : r ≠ w7.heap.size := by have := S7.out.rd.lt; omega
          have hnc : c ≠ w7.heap.size := by have := S7.out.wr.lt; omega
          have hno : w7.heap.size ∉ ownOf sv := fun h => by have := S7.out.wr.row.lt _ h; omega
          generalize w7.heap.size = nb at *
          have NO := hid hno
          clear hno
          clear hn8 ho8
          go_wp2_with fail
          refine (bytes_any c sv l w8 S8.out.wr).mono ?_
          have hps : (pack l).size ≤ 140737488351232 := by rw [size_pack, SM.out.1]; omega
          have PB := hid (bitAt_pack l)
          have PS := hid (size_pack l)
          generalize pack l = pk at *
          rintro e w9 ⟨rfl, ho9⟩
          have S9 := hid (S8.out.keep ho9)
          have N9 := hid (N8.out.only ho9 (by simp))
          clear ho9
          go_wp2_with fail
          refine (read_any pk w9 hps).mono ?_
          rintro e w10 ⟨rfl, ht10, ho10⟩
          have S10 := hid (S9.out.keep ho10)
          have N10 := hid (N9.out.only ho10 (by simp))
          have T10 := hid ht10
          have t1 : w.heap.size ≤ w9.heap.size := S9.out.only.size
          have htn : nb ≠ w9.heap.size := by have := N9.out.lt; omega
          have htr : r ≠ w9.heap.size := by have := S9.out.rd.lt; omega
          have htc : c ≠ w9.heap.size := by have := S9.out.wr.lt; omega
          have hto : w9.heap.size ∉ ownOf sv := fun h => by have := S9.out.wr.row.lt _ h; omega
          generalize w9.heap.size = tb at *
          clear ht10 ho10 hps
          have TO := hid hto
          clear hto
          go_wp2_with fail
          have LN := hid (fun w h => len_any c sv l w h)
          rw [SM.out.1] at LN
          go_loopg [14] pos (fun g i wr => ∃ n : Nat, n + g = pos ∧ i = .int .i64 n ∧ Rd wr nb s n ∧ Rd wr tb pk n ∧ St w r c s wr pos sv l)
          case atStart => exact ⟨0, by omega, rfl, N10.out, T10.out, S10.out⟩
          case round =>
            obtain ⟨m, hm, rfl, hN, hT, hS⟩ := hrel
            have NN := hid hN
            have TT := hid hT
            have SS := hid hS
            have JJ := hid hm
            clear hN hT hS
            by_cases hg : gk = 0
            · obtain rfl : m = pos := by omega
              clear hm
              go_wp2_with fail
              refine (LN.out _ SS.out.wr).mono ?_
              rintro e w11 ⟨rfl, n11, rfl⟩
              have S11 := hid (SS.out.drewN n11)
              generalize World.drewN _ n11 = w11 at *
              go_wp2_with fail
              refine (pos_any r s _ w11 S11.out.rd).mono ?_
              rintro e w12 ⟨rfl, rfl⟩
              go_wp2_with fail
              refine (LN.out _ S11.out.wr).mono ?_
              rintro e w12 ⟨rfl, n12, rfl⟩
              have S12 := hid (S11.out.drewN n12)
              generalize World.drewN _ n12 = w12 at *
              go_wp2_with fail
              refine (known_any w12).mono ?_
              rintro e w13 ⟨rfl, ho13⟩
              go_wp2_with fail
              go_ret
              exact ⟨rfl, S12.out.only.trans ho13⟩
            · have i1 : (m : Int) < (pos : Int) := by omega
              have hm1 : m + 1 ≤ 8 * s.size := by omega
              have hm2 : m + 1 ≤ 8 * pk.size := by rw [PS.out, SM.out.1]; omega
              have b1 : rdU s m 1 = ((bitAt s m).toNat, 0, m + 1) := by
                unfold rdU; rw [if_neg (by omega), if_neg (by simp; omega)]
                simp [valOf]
              have b2 : rdU pk m 1 = ((bitAt s m).toNat, 0, m + 1) := by
                unfold rdU; rw [if_neg (by omega), if_neg (by simp; omega)]
                simp only [Prod.mk.injEq]
                refine ⟨?_, by simp⟩
                rw [show (1 : Int).toNat = 1 from rfl, show valOf pk m 1 = (bitAt pk m).toNat from by simp [valOf], PB.out, SM.out.2 m (by omega)]
              have B1 := hid (fun w h => bit_any nb s m w h)
              have B2 := hid (fun w h => bit_any tb pk m w h)
              rw [b1] at B1
              rw [b2] at B2
              generalize (bitAt s m).toNat = bt at *
              clear hm b1 b2 hm1 hm2
              go_wp2_with fail
              refine (LN.out _ SS.out.wr).mono ?_
              rintro e w11 ⟨rfl, n11, rfl⟩
              have S11 := hid (SS.out.drewN n11)
              have N11 := hid (NN.out.drewN n11)
              have T11 := hid (TT.out.drewN n11)
              generalize World.drewN _ n11 = w11 at *
              have B11 := hid (B1.out w11 N11.out)
              go_wp2_with fail
              refine B11.out.mono ?_
              rintro e w12 ⟨rfl, hN12, hO12⟩
              have N12 := hid hN12
              have T12 := hid (T11.out.only hO12 (by simpa using htn.symm))
              have S12 := hid (S11.out.aside hO12 n1 hnr.symm hnc.symm NO.out)
              have B12 := hid (B2.out w12 T12.out)
              clear hN12 hO12
              go_wp2_with fail
              refine B12.out.mono ?_
              rintro e w13 ⟨rfl, hT13, hO13⟩
              have T13 := hid hT13
              have N13 := hid (N12.out.only hO13 (by simpa using htn))
              have S13 := hid (S12.out.aside hO13 t1 htr.symm htc.symm TO.out)
              clear hT13 hO13
              go_wp2_with fail
              go_roundg (gk - 1)
              case measure => omega
              case rel => exact ⟨m + 1, by have := JJ.out; omega, by go_num, N13.out, T13.out, S13.out⟩
        · rw [hrd] at UE
          rw [hn]
          clear hn hrd
          go_wp2_with fail
          refine (left_any r s pos _ S5.out.rd).mono ?_
          rintro e w6 ⟨rfl, n6, rfl⟩
          have S6 := hid (S5.out.drewN n6)
          generalize World.drewN _ n6 = w6 at *
          have UE6 := hid (UE.out w6 S6.out.rd)
          go_wp2_with fail
          refine UE6.out.mono ?_
          rintro e w7 ⟨rfl, hR7, hO7⟩
          have S7 := hid (S6.out.read hR7 hO7)
          clear hR7 hO7
          go_wp2_with fail
          refine (read_any s w7 (by omega)).mono ?_
          rintro e w8 ⟨rfl, hn8, ho8⟩
          have S8 := hid (S7.out.keep ho8)
          have N8 := hid hn8
          have n1 : w.heap.size ≤ w7.heap.size := S7.out.only.size
          have hnr : r ≠ w7.heap.size := by have := S7.out.rd.lt; omega
          have hnc : c ≠ w7.heap.size := by have := S7.out.wr.lt; omega
          have hno : w7.heap.size ∉ ownOf sv := fun h => by have := S7.out.wr.row.lt _ h; omega
          generalize w7.heap.size = nb at *
          have NO := hid hno
          clear hno
          clear hn8 ho8
          go_wp2_with fail
          refine (bytes_any c sv l w8 S8.out.wr).mono ?_
          have hps : (pack l).size ≤ 140737488351232 := by rw [size_pack, SM.out.1]; omega
          have PB := hid (bitAt_pack l)
          have PS := hid (size_pack l)
          generalize pack l = pk at *
          rintro e w9 ⟨rfl, ho9⟩
          have S9 := hid (S8.out.keep ho9)
          have N9 := hid (N8.out.only ho9 (by simp))
          clear ho9
          go_wp2_with fail
          refine (read_any pk w9 hps).mono ?_
          rintro e w10 ⟨rfl, ht10, ho10⟩
          have S10 := hid (S9.out.keep ho10)
          have N10 := hid (N9.out.only ho10 (by simp))
          have T10 := hid ht10
          have t1 : w.heap.size ≤ w9.heap.size := S9.out.only.size
          have htn : nb ≠ w9.heap.size := by have := N9.out.lt; omega
          have htr : r ≠ w9.heap.size := by have := S9.out.rd.lt; omega
          have htc : c ≠ w9.heap.size := by have := S9.out.wr.lt; omega
          have hto : w9.heap.size ∉ ownOf sv := fun h => by have := S9.out.wr.row.lt _ h; omega
          generalize w9.heap.size = tb at *
          clear ht10 ho10 hps
          have TO := hid hto
          clear hto
          go_wp2_with fail
          have LN := hid (fun w h => len_any c sv l w h)
          rw [SM.out.1] at LN
          go_loopg [14] pos (fun g i wr => ∃ n : Nat, n + g = pos ∧ i = .int .i64 n ∧ Rd wr nb s n ∧ Rd wr tb pk n ∧ St w r c s wr pos sv l)
          case atStart => exact ⟨0, by omega, rfl, N10.out, T10.out, S10.out⟩
          case round =>
            obtain ⟨m, hm, rfl, hN, hT, hS⟩ := hrel
            have NN := hid hN
            have TT := hid hT
            have SS := hid hS
            have JJ := hid hm
            clear hN hT hS
            by_cases hg : gk = 0
            · obtain rfl : m = pos := by omega
              clear hm
              go_wp2_with fail
              refine (LN.out _ SS.out.wr).mono ?_
              rintro e w11 ⟨rfl, n11, rfl⟩
              have S11 := hid (SS.out.drewN n11)
              generalize World.drewN _ n11 = w11 at *
              go_wp2_with fail
              refine (pos_any r s _ w11 S11.out.rd).mono ?_
              rintro e w12 ⟨rfl, rfl⟩
              go_wp2_with fail
              refine (LN.out _ S11.out.wr).mono ?_
              rintro e w12 ⟨rfl, n12, rfl⟩
              have S12 := hid (S11.out.drewN n12)
              generalize World.drewN _ n12 = w12 at *
              go_wp2_with fail
              refine (known_any w12).mono ?_
              rintro e w13 ⟨rfl, ho13⟩
              go_wp2_with fail
              go_ret
              exact ⟨rfl, S12.out.only.trans ho13⟩
            · have i1 : (m : Int) < (pos : Int) := by omega
              have hm1 : m + 1 ≤ 8 * s.size := by omega
              have hm2 : m + 1 ≤ 8 * pk.size := by rw [PS.out, SM.out.1]; omega
              have b1 : rdU s m 1 = ((bitAt s m).toNat, 0, m + 1) := by
                unfold rdU; rw [if_neg (by omega), if_neg (by simp; omega)]
                simp [valOf]
              have b2 : rdU pk m 1 = ((bitAt s m).toNat, 0, m + 1) := by
                unfold rdU; rw [if_neg (by omega), if_neg (by simp; omega)]
                simp only [Prod.mk.injEq]
                refine ⟨?_, by simp⟩
                rw [show (1 : Int).toNat = 1 from rfl, show valOf pk m 1 = (bitAt pk m).toNat from by simp [valOf], PB.out, SM.out.2 m (by omega)]
              have B1 := hid (fun w h => bit_any nb s m w h)
              have B2 := hid (fun w h => bit_any tb pk m w h)
              rw [b1] at B1
              rw [b2] at B2
              generalize (bitAt s m).toNat = bt at *
              clear hm b1 b2 hm1 hm2
              go_wp2_with fail
              refine (LN.out _ SS.out.wr).mono ?_
              rintro e w11 ⟨rfl, n11, rfl⟩
              have S11 := hid (SS.out.drewN n11)
              have N11 := hid (NN.out.drewN n11)
              have T11 := hid (TT.out.drewN n11)
              generalize World.drewN _ n11 = w11 at *
              have B11 := hid (B1.out w11 N11.out)
              go_wp2_with fail
              refine B11.out.mono ?_
              rintro e w12 ⟨rfl, hN12, hO12⟩
              have N12 := hid hN12
              have T12 := hid (T11.out.only hO12 (by simpa using htn.symm))
              have S12 := hid (S11.out.aside hO12 n1 hnr.symm hnc.symm NO.out)
              have B12 := hid (B2.out w12 T12.out)
              clear hN12 hO12
              go_wp2_with fail
              refine B12.out.mono ?_
              rintro e w13 ⟨rfl, hT13, hO13⟩
              have T13 := hid hT13
              have N13 := hid (N12.out.only hO13 (by simpa using htn))
              have S13 := hid (S12.out.aside hO13 t1 htr.symm htc.symm TO.out)
              clear hT13 hO13
              go_wp2_with fail
              go_roundg (gk - 1)
              case measure => omega
              case rel => exact ⟨m + 1, by have := JJ.out; omega, by go_num, N13.out, T13.out, S13.out⟩
        · rw [hrd] at UE
          have e1 : ((n : Int) == 32) = false := by rw [beq_eq_false_iff_ne]; omega
          have e2 : (n : Int) < 32 := by omega
          have e3 : 2 * (n : Int) + 1 ≤ 8 * (s.size : Int) - (pos : Int) := by omega
          rw [hn]
          have PU := hid (fun w h => putue_any c sv l x w h (by omega) (by rw [SM.out.1]; omega))
          rw [show wrUe l x = (0, l ++ ueBits x) from by unfold wrUe; rw [if_neg (by omega)]] at PU
          have SM2 := hid (SM.out.more hxl hxb)
          clear hn hn31 hlg hrd hx hxl hxb
          go_wp2_with fail
          refine (left_any r s pos _ S5.out.rd).mono ?_
          rintro e w6 ⟨rfl, n6, rfl⟩
          have S6 := hid (S5.out.drewN n6)
          generalize World.drewN _ n6 = w6 at *
          have UE6 := hid (UE.out w6 S6.out.rd)
          go_wp2_with fail
          refine UE6.out.mono ?_
          rintro e w7 ⟨rfl, hR7, hO7⟩
          have S7 := hid (S6.out.read hR7 hO7)
          clear hR7 hO7
          go_wp2_with fail
          have PU7 := hid (PU.out w7 S7.out.wr)
          refine PU7.out.mono ?_
          rintro e w8 ⟨rfl, sv8, hp8⟩
          have S8 := hid (S7.out.put hp8.wr hp8.own hp8.only)
          clear hp8
          go_wp2_with fail
          go_roundg (gk - (2 * n + 1))
          case measure => have := J.out; omega
          case rel => exact ⟨pos + (2 * n + 1), sv8, _, by have := J.out; omega, SM2.out, S8.out⟩

open Go.ChangeShapes Go.WideShapes Go.ChangeAt
open Go.ChangeMaps (open_string)
theorem golombComplete_core {H : Type} {enc : TypeId × Value → H} (W : World) (base : Nat)
    (v0 : Value) (d0 : DataW H) (p0 : List MemPlace) (k0 : Value.okWide Try.prog W .any base 9 v0) (h0 : DataW.Trod enc Try.prog W 0 (fun _ => true) true 9 v0 d0 p0) :
    Calls Try.prog 9 #[v0] W fun e w' => e = .returned (.bool true) ∧ Below W.heap.size W w' := by
  obtain ⟨s, rfl, rfl, rfl, w0⟩ := open_string Try.underlying9 k0 h0
  exact (complete_walk s W w0).mono fun e w' ⟨he, ho⟩ => ⟨he, ho.below (Nat.le_refl _) (by simp)⟩
end Go.Proofs.Ytgfcooaobfpdiaa

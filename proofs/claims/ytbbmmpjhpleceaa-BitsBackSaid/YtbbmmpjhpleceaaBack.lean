/- BitsBack: numbers that were written are read, one after another, and what is left is fewer than 8 bits 0. -/
import Derived.Test.YtbbmmpjhpleceaaFit
namespace Go.Proofs.Ytbbmmpjhpleceaa
open Go.RowKit
set_option linter.unusedVariables false

/-- What is written of the first j calls. -/
def wl (f : Nat → Int × Int × Int) : Nat → List Bool
  | 0 => []
  | j + 1 => wl f j ++ bitsOf (fitN (f j).2.1) (fitV (f j).2.1 (f j).2.2)
theorem wl_len (f : Nat → Int × Int × Int) (j : Nat) : (wl f j).length ≤ 64 * j := by
  induction j with
  | zero => simp [wl]
  | succ j ih => simp only [wl, List.length_append, length_bitsOf]; have := fitN_le (f j).2.1; omega
theorem wl_split (f : Nat → Int × Int × Int) (j k : Nat) : ∃ r, wl f (j + 1 + k) = wl f j ++ (bitsOf (fitN (f j).2.1) (fitV (f j).2.1 (f j).2.2) ++ r) := by
  induction k with
  | zero => exact ⟨[], by simp [wl]⟩
  | succ k ih =>
    obtain ⟨r, hr⟩ := ih
    exact ⟨r ++ bitsOf (fitN (f (j + 1 + k)).2.1) (fitV (f (j + 1 + k)).2.1 (f (j + 1 + k)).2.2), by rw [← Nat.add_assoc]; simp only [wl] at hr ⊢; rw [hr]; simp⟩
theorem wl_le (f : Nat → Int × Int × Int) (j n : Nat) (h : j < n) : (wl f j).length + fitN (f j).2.1 ≤ (wl f n).length := by
  obtain ⟨k, rfl⟩ : ∃ k, n = j + 1 + k := ⟨n - (j + 1), by omega⟩
  obtain ⟨r, hr⟩ := wl_split f j k
  rw [hr]; simp
/-- What was written j-th is read there. -/
theorem wl_val (f : Nat → Int × Int × Int) (j n : Nat) (h : j < n) (hv : fitV (f j).2.1 (f j).2.2 < 2 ^ fitN (f j).2.1) : valOf (pack (wl f n)) (wl f j).length (fitN (f j).2.1) = fitV (f j).2.1 (f j).2.2 := by
  obtain ⟨k, rfl⟩ : ∃ k, n = j + 1 + k := ⟨n - (j + 1), by omega⟩
  obtain ⟨r, hr⟩ := wl_split f j k
  rw [valOf_eq, hr]
  refine Eq.trans (valF_congr fun i _ => bitAt_pack _ _) ?_
  exact val_mid _ _ _ _ _ rfl hv
theorem val_rest (l : List Bool) (n : Nat) : valOf (pack l) l.length n = 0 := by
  rw [valOf_eq]
  induction n with
  | zero => rfl
  | succ n ih => simp only [valF, ih, bitAt_pack]; rw [bitL_of_le _ _ (by omega)]; rfl

set_option maxRecDepth 100000 in
set_option maxHeartbeats 2000000 in
theorem back_walk (a : Option Addr) (len cap : Nat) (f : Nat → Int × Int × Int) (w : World) (hlc : len ≤ cap) (hcm : cap ≤ maxLen) (hc : CallsAt w a len f) :
    Calls Try.prog 6 #[.slice a len cap] w fun e w' => e = .returned (.bool true) ∧ Only [] w w' := by
  unfold maxLen at hcm
  by_cases h0 : 100 < len
  · have h0' : (100 : Int) < (len : Int) := by omega
    clear hc
    go_enter Try.func6, Try.ntmps6
    go_wp2_with (go_at_call 11; refine (known_any _).mono ?_; rintro e w1 ⟨rfl, ho1⟩)
    go_ret
    exact ⟨rfl, ho1⟩
  · have h2 : (len : Int) ≤ 100 := by omega
    have h2' : len ≤ 100 := by omega
    have C0 := hid hc
    clear h0 hc
    go_enter Try.func6, Try.ntmps6
    go_wp2_with fail
    refine (write_any w).mono ?_
    rintro e w1 ⟨rfl, hw1, ho1⟩
    obtain ⟨c, hcc⟩ : ∃ c, c = w.heap.size := ⟨_, rfl⟩
    rw [← hcc] at hw1 ⊢
    have HC := hid hcc
    have W1 := hid hw1
    have O1 := hid ho1
    clear hcc hw1 ho1
    go_wp2_with fail
    go_loopg [4, 5] len (fun g all i wr => ∃ (j : Nat) (sv : Value), j + g = len ∧ i = .int .i64 j ∧ all = .int .i64 (wl f j).length ∧ Wr wr c sv (wl f j) ∧ (∀ g, g ∈ ownOf sv → w.heap.size ≤ g) ∧ Only [] w wr)
    case atStart => exact ⟨0, .slice none 0 0, by omega, rfl, rfl, W1.out, by simp [ownOf, Value.ownBlock], O1.out⟩
    case round =>
      obtain ⟨j, sv, hj, rfl, rfl, hW, hS, hO⟩ := hrel
      have W := hid hW
      have S := hid hS
      have O := hid hO
      have J := hid hj
      have hwl := wl_len f j
      clear hW hS hO
      by_cases hg : gk = 0
      · subst hg
        obtain rfl : j = len := by omega
        clear hj
        obtain ⟨L, hL⟩ : ∃ L, L = wl f j := ⟨_, rfl⟩
        rw [← hL] at W hwl ⊢
        have LL := hid hL
        clear hL
        go_wp2_with fail
        refine (len_any c sv L wr W.out).mono ?_
        rintro e w2 ⟨rfl, n2, rfl⟩
        have W2 := hid (W.out.only ((Only.refl [] wr).drewN n2) (by simp) (by simp))
        go_wp2_with fail
        refine (bits_any c sv L _ W2.out).mono ?_
        rintro e w3 ⟨rfl, hO3⟩
        have W3 := hid (W2.out.only hO3 (by simp) (by simp))
        have O3 := hid ((O.out.drewN n2).trans hO3)
        have hcs : (chars L).size = L.length := size_chars L
        clear hO3
        have hps : (pack L).size = (L.length + 7) / 8 := size_pack L
        have V0 := hid (val_rest L)
        have VL := hid (fun (i : Nat) (h : i < j) (hv : _) => wl_val f i j h hv)
        have BL := hid (fun (i : Nat) (h : i < j) => wl_le f i j h)
        rw [← LL.out] at VL BL
        generalize hcl : chars L = cl at *
        generalize hpl : pack L = pk at *
        have CL := hid hcl
        have PL := hid hpl
        clear hcl hpl
        go_wp2_with fail
        refine (bytes_any c sv L _ W3.out).mono ?_
        rw [PL.out]
        rintro e w4 ⟨rfl, hO4⟩
        have W4 := hid (W3.out.only hO4 (by simp) (by simp))
        have O4 := hid (O3.out.trans hO4)
        clear hO4
        have hb1 : (((L.length : Int) + 7) / 8) = (pk.size : Int) := by omega
        have PS := hid hps
        have hpz : pk.size ≤ 800 := by omega
        clear hps
        go_wp2_with fail
        refine (bytes_any c sv L _ W4.out).mono ?_
        rw [PL.out]
        rintro e w5 ⟨rfl, hO5⟩
        have O5 := hid (O4.out.trans hO5)
        clear hO5 hb1
        go_wp2_with fail
        refine (read_any pk w5 (by omega)).mono ?_
        rintro e w6 ⟨rfl, hR6, hO6⟩
        have hrw : w.heap.size ≤ w5.heap.size := O5.out.size
        generalize hrr : w5.heap.size = r at hR6 hrw ⊢
        clear hrr
        have R6 := hid hR6
        have O6 := hid (O5.out.trans hO6)
        have RW := hid (fun x (hx : x ∈ [r]) => (Or.inr (by rw [List.mem_singleton.1 hx]; exact hrw) : x ∈ ([] : List Nat) ∨ w.heap.size ≤ x))
        clear hR6 hO6 hrw
        go_wp2_with fail
        have J0 := J
        go_loopg [9] j (fun g i wr => ∃ k : Nat, k + g = j ∧ i = .int .i64 k ∧ Rd wr r pk (wl f k).length ∧ Only [] w wr)
        case atStart => exact ⟨0, by omega, rfl, R6.out, O6.out⟩
        case round =>
          obtain ⟨k, hk, rfl, hR, hO⟩ := hrel
          have R := hid hR
          have O := hid hO
          have K := hid hk
          clear hR hO
          by_cases hg : gk = 0
          · subst hg
            obtain rfl : k = j := by omega
            clear hk
            rw [← LL.out] at R
            have hsz : pk.size = (L.length + 7) / 8 := PS.out
            have q1 : (8 * (pk.size : Int) - (L.length : Int)) < 8 := by omega
            have q2 : 0 ≤ (8 * (pk.size : Int) - (L.length : Int)) := by omega
            obtain ⟨m, hm⟩ : ∃ m : Nat, (m : Int) = 8 * (pk.size : Int) - (L.length : Int) := ⟨(8 * (pk.size : Int) - (L.length : Int)).toNat, by omega⟩
            have hm8 : m ≤ 7 := by omega
            have hmp : L.length + m ≤ 8 * pk.size := by omega
            have HM := hid hm
            clear hsz hm
            go_wp2_with fail
            refine (pos_any r pk _ _ R.out).mono ?_
            rintro e w7 ⟨rfl, rfl⟩
            go_wp2_with fail
            refine (left_any r pk _ _ R.out).mono ?_
            rintro e w7 ⟨rfl, n7, rfl⟩
            go_wp2_with fail
            refine (left_any r pk _ _ (R.out.drewN n7)).mono ?_
            rintro e w8 ⟨rfl, n8, rfl⟩
            go_wp2_with fail
            rw [← HM.out]
            refine (u_yes r pk L.length m _ (R.out.drewN (n7 + n8)) (by omega) hmp).mono ?_
            rw [V0.out m]
            rintro e w9 ⟨rfl, hR9, hO9⟩
            have O9 := hid ((O.out.drewN (n7 + n8)).trans2 hO9 RW.out)
            clear hR9 hO9
            go_wp2_with fail
            refine (known_any w9).mono ?_
            rintro e w10 ⟨rfl, hO10⟩
            go_wp2_with fail
            go_ret
            exact ⟨rfl, O9.out.trans hO10⟩
          · have i1 : (k : Int) < (j : Int) := by omega
            have hkj : k < j := by omega
            clear hk
            rcases C0.out with hz | ⟨b, o, rfl, hall⟩
            · omega
            obtain ⟨x0, x1, x2⟩ := C0.out.at O.out hkj
            obtain ⟨_, ⟨b1, b2⟩, b3, b4⟩ := (hall k hkj).2
            have F := fun w => fit_any (f k).1 (f k).2.1 (f k).2.2 w b3 b4 b1 b2
            have hv := VL.out k hkj (fitV_lt (f k).2.1 (f k).2.2 b3 b4)
            have hle := BL.out k hkj
            have hn := fitN_le (f k).2.1
            have ew := hid (show wl f (k + 1) = wl f k ++ bitsOf (fitN (f k).2.1) (fitV (f k).2.1 (f k).2.2) from rfl)
            clear hall b3 b4 b1 b2
            generalize (f k).1 = x at *
            generalize (f k).2.1 = y at *
            generalize (f k).2.2 = z at *
            generalize fitV y z = v at *
            generalize fitN y = n at *
            have F := hid F
            have HV := hid hv
            clear hv
            have hpp : (wl f k).length + n ≤ 8 * pk.size := by have := PS.out; omega
            have el : (wl f (k + 1)).length = (wl f k).length + n := by rw [ew.out]; simp
            have EL := hid el
            clear el ew
            generalize (wl f k).length = p at *
            go_wp2_with fail
            refine (F.out wr).mono ?_
            rintro e w2 ⟨rfl, hO2⟩
            have R2 := hid (R.out.only hO2 (by simp))
            have O2 := hid (O.out.trans hO2)
            clear hO2
            go_wp2_with fail
            refine (u_yes r pk p n w2 R2.out hn hpp).mono ?_
            rw [HV.out]
            rintro e w3 ⟨rfl, hR3, hO3⟩
            have R3 := hid hR3
            have O3 := hid (O2.out.trans2 hO3 RW.out)
            clear hR3 hO3
            go_wp2_with fail
            go_roundg (gk - 1)
            case measure => omega
            case rel => exact ⟨k + 1, by have := K.out; omega, by go_num, by rw [EL.out]; exact R3.out, O3.out⟩
      · have i1 : (j : Int) < (len : Int) := by omega
        have hjl : j < len := by omega
        clear hj
        rcases C0.out with hz | ⟨b, o, rfl, hall⟩
        · omega
        obtain ⟨x0, x1, x2⟩ := C0.out.at O.out hjl
        obtain ⟨_, ⟨b1, b2⟩, b3, b4⟩ := (hall j hjl).2
        have F := fun w => fit_any (f j).1 (f j).2.1 (f j).2.2 w b3 b4 b1 b2
        have hv := fitV_lt (f j).2.1 (f j).2.2 b3 b4
        have hn := fitN_le (f j).2.1
        have ew := hid (show wl f (j + 1) = wl f j ++ bitsOf (fitN (f j).2.1) (fitV (f j).2.1 (f j).2.2) from rfl)
        clear hall b3 b4 b1 b2
        generalize (f j).1 = x at *
        generalize (f j).2.1 = y at *
        generalize (f j).2.2 = z at *
        generalize fitV y z = v at *
        generalize fitN y = n at *
        have F := hid F
        go_wp2_with fail
        refine (F.out wr).mono ?_
        rintro e w2 ⟨rfl, hO2⟩
        have W2 := hid (W.out.only hO2 (by simp) (by simp))
        have O2 := hid (O.out.trans hO2)
        clear hO2
        obtain ⟨l, hl⟩ : ∃ l, l = wl f j := ⟨_, rfl⟩
        rw [← hl] at hwl ew W2 W ⊢
        clear hl
        go_wp2_with fail
        refine (put_yes c sv l n v w2 W2.out hn hv (by omega)).mono ?_
        rintro e w3 ⟨rfl, sv', hW3, hS3, hO3⟩
        have W3 := hid hW3
        have O3 := hid (O2.out.trans2 hO3 (fun x hx => .inr (by rcases List.mem_cons.1 hx with h | h; rw [h, HC.out]; exact Nat.le_refl _; exact S.out x h)))
        have S3 := hid (show ∀ g, g ∈ ownOf sv' → w.heap.size ≤ g from fun g hg => by rcases hS3 g hg with h | h; exact S.out g h; have := O2.out.size; omega)
        clear hW3 hS3 hO3
        go_wp2_with fail
        go_roundg (gk - 1)
        case measure => omega
        case rel =>
          refine ⟨j + 1, sv', by have := J.out; omega, by go_num, ?_, ?_, S3.out, O3.out⟩
          · rw [ew.out, List.length_append, length_bitsOf]; go_num
          · rw [ew.out]; exact W3.out

open Go.ChangeShapes Go.WideShapes Go.ChangeAt
theorem bitsBack_core {H : Type} {enc : TypeId × Value → H} (W : World) (base : Nat)
    (v0 : Value) (d0 : DataW H) (p0 : List MemPlace) (k0 : Value.okWide Try.prog W .any base 22 v0) (h0 : DataW.Trod enc Try.prog W 0 (fun _ => true) true 22 v0 d0 p0) :
    Calls Try.prog 6 #[v0] W fun e w' => e = .returned (.bool true) ∧ Below W.heap.size W w' := by
  obtain ⟨a, len, cap, f, rfl, hlc, hcm, hc⟩ := open_calls k0 h0
  exact (back_walk a len cap f W hlc hcm hc).mono fun e w' ⟨he, ho⟩ => ⟨he, ho.below (Nat.le_refl _) (by simp)⟩
end Go.Proofs.Ytbbmmpjhpleceaa

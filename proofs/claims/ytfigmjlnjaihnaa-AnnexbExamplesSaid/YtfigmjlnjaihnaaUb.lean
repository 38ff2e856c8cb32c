/- The program's unitBefore, mayBe, Long and before. -/
import Derived.Test.YtfigmjlnjaihnaaCutM
import Derived.Test.YtfigmjlnjaihnaaShA
import Derived.Test.YtfigmjlnjaihnaaJoM
import Derived.Deep.LoopGhost
import Derived.Deep.DeepCutAuto
import Derived.Deep.CutBlock
namespace Go.Proofs.Ytfigmjlnjaihnaa
open Go.RowKit
set_option linter.unusedVariables false

theorem extract_take (s : ByteArray) (k : Nat) (hk : k ≤ s.size) : (s.extract 0 k).data.toList = s.data.toList.take k := by
  simp [ByteArray.data_extract, Array.toList_extract, List.extract_eq_take_drop]
theorem extract_eq_of (s : ByteArray) (l : List UInt8) (h : l = s.data.toList.take l.length) (hk : l.length ≤ s.size) : s.extract 0 l.length = strOf l := by
  have e := extract_take s l.length hk
  rw [← h] at e
  have := strOf_data (s.extract 0 l.length)
  rw [e] at this
  exact this.symm
theorem byte1 (x : UInt8) : x = 1 ↔ (x.toNat : Int) = 1 := by
  rw [← UInt8.toNat_inj]
  show x.toNat = 1 ↔ _
  omega

set_option maxHeartbeats 4000000 in
theorem ub_any (s : ByteArray) (w : World) (hs : s.size ≤ 100000000) : Calls Try.prog 22 #[.string s] w fun e w' => e = .returned (.string (strOf (ub s.data.toList))) ∧ w' = w := by
  have hU : ub s.data.toList = s.data.toList.take (ub s.data.toList).length := ub_take _
  have hL : (ub s.data.toList).length ≤ s.size := by
    have := congrArg List.length hU
    rw [List.length_take] at this
    have e : s.data.toList.length = s.size := by simp
    omega
  have hX := extract_eq_of s _ hU hL
  obtain ⟨r, hr⟩ : ∃ r, r = strOf (ub s.data.toList) := ⟨_, rfl⟩
  rw [← hr]
  have U := hid hr
  have X := hid hX
  clear hr hU hL hX
  go_enter Try.func22, Try.ntmps22
  go_wp2_with fail
  go_step3
  go_wp2_with fail
  go_step3
  go_wp2_with fail
  go_loopg [3, 7] s.size (fun g e i wr => ∃ j k : Nat, j + g = s.size ∧ i = .int .i64 j ∧ e = .int .i64 k ∧ wr = w ∧ NoSc (s.data.toList.take j) ∧ (trim0 (s.data.toList.take j)).length = k ∧ k ≤ j)
  case atStart => exact ⟨0, 0, by omega, rfl, rfl, rfl, nosc_nil, rfl, by omega⟩
  case round =>
    obtain ⟨j, k, hj, rfl, rfl, rfl, hn, hk, hkj⟩ := hrel
    have jb : (j : Int) ≤ 100000000 := by omega
    have j0 : (0 : Int) ≤ (j : Int) := by omega
    have k0 : (0 : Int) ≤ (k : Int) := by omega
    have kj : (k : Int) ≤ (j : Int) := by omega
    have J := hid hj
    have N := hid hn
    have K := hid hk
    clear hn hk
    by_cases hg : gk = 0
    · obtain rfl : j = s.size := by omega
      have j1 : ¬ (s.size : Int) < (s.size : Int) := by omega
      have T : s.data.toList.take s.size = s.data.toList := List.take_of_length_le (by simp)
      have E : ub s.data.toList = trim0 s.data.toList := ub_done (by have := N.out; rw [T] at this; exact this)
      have K2 := K.out
      rw [T, ← E] at K2
      have X2 := X.out
      rw [K2] at X2
      clear hj hg T E K2
      go_wp2_with fail
      go_ret
      exact ⟨by rw [U.out, ← X2]; rfl, rfl⟩
    · have j1 : (j : Int) < (s.size : Int) := by omega
      have jl : j < s.size := by omega
      obtain ⟨g, rfl⟩ : ∃ g, gk = g + 1 := ⟨gk - 1, by omega⟩
      have G := getL s j jl
      clear hj hg
      by_cases h0 : s[j] = 0
      · have h0' := (byte0 _).1 h0
        have NX := hid (nosc_next N.out G (fun h => absurd (h0.symm.trans h) (by decide)))
        have KX := hid (show (trim0 (s.data.toList.take (j + 1))).length = k by rw [take_snoc G, h0, trim_snoc0]; exact K.out)
        clear h0 G
        go_wp2_with fail
        go_roundg g
        case measure => omega
        case rel => exact ⟨j + 1, k, by have := J.out; omega, by go_num, rfl, rfl, NX.out, KX.out, by omega⟩
      · have h0' := mt (byte0 _).2 h0
        have KX := hid (show (trim0 (s.data.toList.take (j + 1))).length = j + 1 by
          rw [take_snoc G, trim_snoc _ _ h0, ← take_snoc G, List.length_take]
          have e : s.data.toList.length = s.size := by simp
          omega)
        by_cases h1 : s[j] = 1
        · have h1' := (byte1 _).1 h1
          by_cases h2 : k + 2 ≤ j
          · have h2' : (2 : Int) ≤ (j : Int) - (k : Int) := by omega
            rw [h1] at G
            have E := ub_break N.out G (by rw [K.out]; exact h2)
            have X2 := X.out
            rw [E, K.out] at X2
            have UE := hid (U.out.trans (congrArg strOf E))
            clear h0 h1 h2 G E
            go_wp2_with fail
            rw [Exit.noGoto_ret]
            go_ret
            exact ⟨by rw [UE.out]; rfl, rfl⟩
          · have h2' : ¬ (2 : Int) ≤ (j : Int) - (k : Int) := by omega
            have NX := hid (nosc_next N.out G (fun _ h => h2 (by rw [K.out] at h; exact h)))
            clear h0 h1 h2 G
            go_wp2_with fail
            go_roundg g
            case measure => omega
            case rel => exact ⟨j + 1, j + 1, by have := J.out; omega, by go_num, by go_num, rfl, NX.out, KX.out, by omega⟩
        · have h1' := mt (byte1 _).2 h1
          have NX := hid (nosc_next N.out G (fun h => absurd h h1))
          clear h0 h1 G
          go_wp2_with fail
          go_roundg g
          case measure => omega
          case rel => exact ⟨j + 1, j + 1, by have := J.out; omega, by go_num, by go_num, rfl, NX.out, KX.out, by omega⟩

set_option maxHeartbeats 4000000 in
theorem may_any (s : ByteArray) (w : World) (hM : MaxL w) (hs : s.size ≤ 100000000) : Calls Try.prog 24 #[.string s] w fun e w' => e = .returned (.bool (mayB s.data.toList)) ∧ w' = w := by
  obtain ⟨m, hm⟩ : ∃ m, m = mayB s.data.toList := ⟨_, rfl⟩
  rw [← hm]
  have M := hid hm
  clear hm
  by_cases h0 : s.size = 0
  · have E := M.out
    rw [mayB_empty s h0] at E
    subst E
    have hd : s = ⟨#[]⟩ := by
      have : s.data = #[] := Array.size_eq_zero_iff.1 h0
      cases s; simp_all
    subst hd
    clear h0 M hM
    go_enter Try.func24, Try.ntmps24
    go_wp2_with fail
    go_ret
    exact ⟨rfl, rfl⟩
  · have hp : 0 < s.size := by omega
    have hne : ¬ s.toList = [] := by rw [Lib.toList_data]; exact nonempty s hp
    have hem : s.toList.isEmpty = false := by rw [List.isEmpty_eq_false_iff]; exact hne
    have hq : (0 : Int) < (s.size : Int) := by omega
    have lt1 : s.size - 1 < s.size := by omega
    have hr : 1 ≤ (s.size : Int) ∧ (s.size : Int) - 1 < (s.size : Int) := by omega
    have eL : ((s.size : Int) - 1).toNat = s.size - 1 := by omega
    by_cases hz : s[s.size - 1] = 0
    · have E := M.out
      rw [mayB_zero s hp hz] at E
      subst E
      have hz' := (byte0 _).1 hz
      clear hz M hM
      go_enter Try.func24, Try.ntmps24
      go_wp2_with fail
      go_ret
      exact ⟨rfl, rfl⟩
    · have hz' := mt (byte0 _).2 hz
      have hzb : ((s[s.size - 1].toNat : Int) == 0) = false := by rw [beq_eq_false_iff_ne]; exact hz'
      have C0 := hid (contains_any s ⟨#[0, 0, 0]⟩ w hM hs)
      have C1 := hid (contains_any s ⟨#[0, 0, 1]⟩ w hM hs)
      have C2 := hid (contains_any s ⟨#[0, 0, 2]⟩ w hM hs)
      have B := bad_contains s.data.toList
      have OK := mayB_ok s hp hz
      have NO : ∀ b, mayB s.data.toList = b → (b = true ↔ ∀ i, ¬ Bad s.data.toList i) := fun b hb => by
        subst hb
        exact ⟨fun h => ((mayB_iff _).1 h).2.2, OK⟩
      have NB := NO m M.out.symm
      rw [B] at NB
      clear hz M hM B OK NO
      rw [show (⟨#[0, 0, 0]⟩ : ByteArray).data.toList = [0, 0, 0] from rfl] at C0
      rw [show (⟨#[0, 0, 1]⟩ : ByteArray).data.toList = [0, 0, 1] from rfl] at C1
      rw [show (⟨#[0, 0, 2]⟩ : ByteArray).data.toList = [0, 0, 2] from rfl] at C2
      generalize Lib.contains s.data.toList [0, 0, 0] = b0 at *
      generalize Lib.contains s.data.toList [0, 0, 1] = b1 at *
      generalize Lib.contains s.data.toList [0, 0, 2] = b2 at *
      have NB := hid NB
      cases b0 with
      | true =>
        have E : m = false := by cases m with
          | false => rfl
          | true => exact absurd (NB.out.1 rfl).1 (by simp)
        subst E
        go_enter Try.func24, Try.ntmps24
        go_wp2_with fail
        refine C0.out.mono ?_
        rintro e w' ⟨rfl, rfl⟩
        go_wp2_with fail
        go_ret
        exact ⟨rfl, rfl⟩
      | false =>
        cases b1 with
        | true =>
          have E : m = false := by cases m with
            | false => rfl
            | true => exact absurd (NB.out.1 rfl).2.1 (by simp)
          subst E
          go_enter Try.func24, Try.ntmps24
          go_wp2_with fail
          refine C0.out.mono ?_
          rintro e w' ⟨rfl, rfl⟩
          go_wp2_with fail
          refine C1.out.mono ?_
          rintro e w' ⟨rfl, rfl⟩
          go_wp2_with fail
          go_ret
          exact ⟨rfl, rfl⟩
        | false =>
          have E : m = !b2 := by
            cases b2 with
            | false => exact NB.out.2 ⟨rfl, rfl, rfl⟩
            | true => cases m with
              | false => rfl
              | true => exact absurd (NB.out.1 rfl).2.2 (by simp)
          subst E
          go_enter Try.func24, Try.ntmps24
          go_wp2_with fail
          refine C0.out.mono ?_
          rintro e w' ⟨rfl, rfl⟩
          go_wp2_with fail
          refine C1.out.mono ?_
          rintro e w' ⟨rfl, rfl⟩
          go_wp2_with fail
          refine C2.out.mono ?_
          rintro e w' ⟨rfl, rfl⟩
          go_wp2_with fail
          go_ret
          exact ⟨rfl, rfl⟩

set_option maxHeartbeats 1000000 in
theorem long_any (k : Int) (first : Bool) (w : World) (h0 : 0 ≤ k) (h1 : k ≤ 255) : Calls Try.prog 18 #[.int .u8 k, .bool first] w fun e w' => e = .returned (.bool (longB k first)) ∧ w' = w := by
  cases first with
  | true =>
    go_enter Try.func18, Try.ntmps18
    go_wp2_with fail
    go_ret
    exact ⟨rfl, rfl⟩
  | false =>
    by_cases h7 : k = 7
    · subst h7
      go_enter Try.func18, Try.ntmps18
      go_wp2_with fail
      go_ret
      exact ⟨rfl, rfl⟩
    · have b7 : (k == 7) = false := by rw [beq_eq_false_iff_ne]; exact h7
      have E : longB k false = (k == 8) := by unfold longB; rw [b7]; rfl
      rw [E]
      clear E h7
      go_enter Try.func18, Try.ntmps18
      go_wp2_with fail
      go_ret
      exact ⟨rfl, rfl⟩

/-- What is before a unit. -/
def codeOf (first : Bool) (u : ByteArray) : ByteArray := if longB (headN u % 32) first = true then ⟨#[0, 0, 0, 1]⟩ else ⟨#[0, 0, 1]⟩
theorem code_piece (first : Bool) (u : ByteArray) : (codeOf first u).data.toList ++ u.data.toList = piece first u := by
  unfold codeOf piece
  split <;> rfl
set_option maxHeartbeats 1000000 in
theorem before_any (u : ByteArray) (first : Bool) (w : World) (h : 0 < u.size) : Calls Try.prog 28 #[.string u, .bool first] w fun e w' => e = .returned (.string (codeOf first u)) ∧ w' = w := by
  have ub : (u[0].toNat : Int) ≤ 255 := by have := UInt8.toNat_lt u[0]; omega
  have ub0 : 0 ≤ (u[0].toNat : Int) := by omega
  have upI : (0 : Int) < (u.size : Int) := by omega
  have LG := hid (long_any ((u[0].toNat : Int) % 32) first w (by omega) (by omega))
  have C : codeOf first u = if longB ((u[0].toNat : Int) % 32) first = true then ⟨#[0, 0, 0, 1]⟩ else ⟨#[0, 0, 1]⟩ := by unfold codeOf; rw [head_get u h]
  obtain ⟨c, hc⟩ : ∃ c, c = codeOf first u := ⟨_, rfl⟩
  rw [← hc] at C ⊢
  have C := hid C
  clear hc
  cases hlb : longB ((u[0].toNat : Int) % 32) first with
  | true =>
    rw [hlb] at LG C
    have C := C.out
    rw [if_pos rfl] at C
    subst C
    clear hlb
    go_enter Try.func28, Try.ntmps28
    go_wp2_with fail
    refine LG.out.mono ?_
    rintro e w' ⟨rfl, rfl⟩
    go_wp2_with fail
    go_ret
    exact ⟨rfl, rfl⟩
  | false =>
    rw [hlb] at LG C
    have C := C.out
    rw [if_neg (by simp)] at C
    subst C
    clear hlb
    go_enter Try.func28, Try.ntmps28
    go_wp2_with fail
    refine LG.out.mono ?_
    rintro e w' ⟨rfl, rfl⟩
    go_wp2_with fail
    go_ret
    exact ⟨rfl, rfl⟩
end Go.Proofs.Ytfigmjlnjaihnaa

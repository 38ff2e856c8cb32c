/- The reference's Unescape. -/
import Derived.Test.YtghdnefaempigaaDoorREsc
import Derived.Outline
namespace Go.Proofs.YtghdnefaempigaaDoor
open Go.RowKit
set_option linter.unusedVariables false

/-- What Unescape answers. -/
def unR (l : List UInt8) : ByteArray × Int := match unesc l with
  | some t => (bytesOf t, 0)
  | none => (⟨#[]⟩, 4)
theorem unR_no {l : List UInt8} (h : unF 0 l = none) : unR l = (⟨#[]⟩, 4) := by
  unfold unR unesc; rw [h]
theorem unR_end {l t : List UInt8} (h : unF 0 l = some t) : unR l = if esc t = l then (bytesOf t, 0) else (⟨#[]⟩, 4) := by
  unfold unR unesc; rw [h]
  by_cases e : esc t = l
  · simp only [e, if_true]
  · simp only [e, if_false]
theorem drop_one (s : ByteArray) (j : Nat) (h : j < s.size) : s.data.toList.drop j = s[j] :: s.data.toList.drop (j + 1) := by
  rw [List.drop_eq_getElem_cons (by simpa using h)]; rfl
theorem bytesOf_data (s : ByteArray) : bytesOf s.data.toList = s := by unfold bytesOf; simp
theorem bytesOf_inj {l m : List UInt8} (h : bytesOf l = bytesOf m) : l = m := by
  have := congrArg (fun x => x.data.toList) h
  simpa [bytesOf] using this
theorem eqB (l : List UInt8) (s : ByteArray) : ((bytesOf l).toList == s.toList) = decide (l = s.data.toList) := by
  rw [Lib.toList_data, Lib.toList_data]
  unfold bytesOf
  by_cases h : l = s.data.toList
  · subst h; simp
  · rw [decide_eq_false h, beq_eq_false_iff_ne]; simpa using h

set_option maxHeartbeats 4000000 in
theorem runescape_any (s : ByteArray) (w : World) (hs : s.size ≤ 50000) :
    Calls Tryd.prog 13 #[.string s] w fun e w' => e = .returned (.tuple #[.string (unR s.data.toList).1, .int .i64 (unR s.data.toList).2]) ∧ Only [] w w' := by
  have hsz : s.data.toList.length = s.size := by simp
  have HS := hid hsz
  clear hsz
  obtain ⟨U, hU⟩ : ∃ U, U = unR s.data.toList := ⟨_, rfl⟩
  rw [← hU]
  have UU := hid hU
  obtain ⟨us, ue⟩ := U
  clear hU
  go_enter Tryd.func13, Tryd.ntmps13
  go_wp2_with fail
  go_loopg [4, 5, 6] s.size (fun g out z i wr => ∃ (j t : Nat) (bs : List UInt8), j + g = s.size ∧ i = .int .i64 j ∧ z = .int .i64 t ∧ t ≤ 2 ∧ bs.length ≤ j ∧ unF 0 s.data.toList = (unF t (s.data.toList.drop j)).map (bs ++ ·) ∧ Row wr out bs ∧ (∀ g, g ∈ ownOf out → w.heap.size ≤ g) ∧ Only [] w wr)
  case atStart => exact ⟨0, 0, [], by omega, rfl, rfl, by omega, by simp, by simp, ⟨rfl, .inl ⟨rfl, rfl⟩⟩, by simp [ownOf, Value.ownBlock], Only.refl _ _⟩
  case round =>
    obtain ⟨j, z, bs, hj, rfl, rfl, hz, hbl, hun, hR, hS, hO⟩ := hrel
    have R := hid hR
    have S := hid hS
    have O := hid hO
    have J := hid hj
    have UN := hid hun
    clear hR hS hO hun
    by_cases hg : gk = 0
    · obtain rfl : j = s.size := by omega
      have i1 : ¬ (s.size : Int) < (s.size : Int) := by omega
      have EN := UN.out
      rw [show s.data.toList.drop s.size = [] from List.drop_eq_nil_of_le (by rw [HS.out]; exact Nat.le_refl _)] at EN
      simp only [unF, Option.map_some, List.append_nil] at EN
      have E := unR_end EN
      have CV := conv_row R.out
      rw [show (⟨bs.toArray⟩ : ByteArray) = bytesOf bs from rfl] at CV
      have hb2 : (bytesOf bs).size ≤ 100000 := by show bs.toArray.size ≤ _; simp; omega
      have EQ := eqB (esc bs) s
      have ES := hid (fun w => rescape_any (bytesOf bs) w hb2)
      rw [show (bytesOf bs).data.toList = bs from by unfold bytesOf; simp] at ES
      have CV2 := fun (w' : World) (o : Only [] wr w') => (conv_row (R.out.only o (by simp)))
      have CV2 := hid CV2
      clear hj hb2
      by_cases he : esc bs = s.data.toList
      · rw [if_pos he, ← UU.out] at E
        rw [decide_eq_true he] at EQ
        have E := hid E
        clear he EN
        go_wp2_with fail
        refine (ES.out wr).mono ?_
        rintro e w3 ⟨rfl, ho3⟩
        have CV3 := CV2.out w3 ho3
        rw [show (⟨bs.toArray⟩ : ByteArray) = bytesOf bs from rfl] at CV3
        have O3 := hid (O.out.trans ho3)
        clear ho3 CV
        go_wp2_with fail
        go_ret2
        have E := E.out
        simp only [Prod.mk.injEq] at E
        obtain ⟨rfl, rfl⟩ := E
        exact ⟨rfl, O3.out⟩
      · rw [if_neg he, ← UU.out] at E
        rw [decide_eq_false he] at EQ
        have E := hid E
        clear he EN
        go_wp2_with fail
        refine (ES.out wr).mono ?_
        rintro e w3 ⟨rfl, ho3⟩
        have O3 := hid (O.out.trans ho3)
        clear ho3 CV
        go_wp2_with fail
        go_ret2
        have E := E.out
        simp only [Prod.mk.injEq] at E
        obtain ⟨rfl, rfl⟩ := E
        exact ⟨rfl, O3.out⟩
    · have i1 : (j : Int) < (s.size : Int) := by omega
      have hjl : j < s.size := by omega
      have DR := drop_one s j hjl
      have UN2 := UN.out
      rw [DR, unF] at UN2
      have b0 : 0 ≤ (s[j].toNat : Int) := Int.natCast_nonneg _
      have b1 : (s[j].toNat : Int) ≤ 255 := by have := UInt8.toNat_lt s[j]; omega
      have eq3 : s[j] = 3 ↔ (s[j].toNat : Int) = 3 := by rw [← UInt8.toNat_inj]; show s[j].toNat = 3 ↔ _; omega
      have eq0 : s[j] = 0 ↔ (s[j].toNat : Int) = 0 := by rw [← UInt8.toNat_inj]; show s[j].toNat = 0 ↔ _; omega
      have EQ3 := hid eq3
      have EQ0 := hid eq0
      clear hj DR eq3 eq0
      by_cases h3 : z = 2 ∧ s[j] = 3
      · rw [if_pos h3] at UN2
        have UN3 := hid UN2
        have h2' : ((z : Int) == 2) = true := by rw [beq_iff_eq]; omega
        have h3' : ((s[j].toNat : Int) == 3) = true := by rw [beq_iff_eq]; exact EQ3.out.1 h3.2
        clear h3 UN2
        go_wp2_with fail
        go_roundg (gk - 1)
        case measure => omega
        case rel => exact ⟨j + 1, 0, bs, by have := J.out; omega, by go_num, rfl, by omega, by omega, UN3.out, R.out, S.out, O.out⟩
      · rw [if_neg h3] at UN2
        obtain ⟨sv3, w3, hrun3, hrow3, honly3, hown3⟩ := append_one wr _ bs s[j] _ rfl R.out (by omega)
        have R3 := hid hrow3
        have O3 := hid (O.out.trans2 honly3 (fun x hx => .inr (S.out x hx)))
        have S3 := hid (show ∀ g, g ∈ ownOf sv3 → w.heap.size ≤ g from fun g hg => by
          rcases hown3 g hg with e | e
          · exact S.out g e
          · exact Nat.le_trans O.out.size e)
        clear honly3 hown3 hrow3
        have zb : (z : Int) ≤ 2 := by omega
        have hcase : ((z : Int) == 2) = false ∨ (((z : Int) == 2) = true ∧ ((s[j].toNat : Int) == 3) = false) := by
          by_cases e : z = 2
          · refine .inr ⟨by rw [beq_iff_eq]; omega, ?_⟩
            rw [beq_eq_false_iff_ne]; exact fun h => h3 ⟨e, EQ3.out.2 h⟩
          · exact .inl (by rw [beq_eq_false_iff_ne]; omega)
        clear h3
        by_cases h0 : z = 2 ∧ s[j] = 0
        · rw [if_pos h0] at UN2
          have E := unR_no (show unF 0 s.data.toList = none from UN2)
          rw [← UU.out] at E
          have E := hid E
          have hb2 : ((s[j].toNat : Int) != 0) = false := by rw [EQ0.out.1 h0.2]; rfl
          have hz3 : ((z : Int) + 1 == 3) = true := by rw [beq_iff_eq]; omega
          clear h0 UN2
          rcases hcase with h2' | ⟨h2', h3'⟩
          all_goals
            go_wp2_with (at_builtin; refine Lib.wpList_append_run _ rfl _ _ _ _ rfl _ _ rfl rfl _ _ hrun3 ?_)
            try rw [Exit.noGoto_ret]
            go_ret2
            have E := E.out
            simp only [Prod.mk.injEq] at E
            obtain ⟨rfl, rfl⟩ := E
            exact ⟨rfl, O3.out⟩
        · rw [if_neg h0] at UN2
          have UN3 := hid (show unF 0 s.data.toList = (unF (if s[j] = 0 then z + 1 else 0) (s.data.toList.drop (j + 1))).map ((bs ++ [s[j]]) ++ ·) from by
            rw [UN2, Option.map_map]; congr 1; funext x; simp)
          clear UN2
          by_cases hb : s[j] = 0
          · have hb2 : ((s[j].toNat : Int) != 0) = false := by rw [EQ0.out.1 hb]; rfl
            have hz1 : z ≤ 1 := by
              have : z ≠ 2 := fun e => h0 ⟨e, hb⟩
              omega
            have hz3 : ((z : Int) + 1 == 3) = false := by rw [beq_eq_false_iff_ne]; omega
            have UN4 := UN3.out
            rw [if_pos hb] at UN4
            have UN4 := hid UN4
            clear hb h0
            rcases hcase with h2' | ⟨h2', h3'⟩
            all_goals
              go_wp2_with (at_builtin; refine Lib.wpList_append_run _ rfl _ _ _ _ rfl _ _ rfl rfl _ _ hrun3 ?_)
              go_roundg (gk - 1)
              case measure => omega
              case rel => exact ⟨j + 1, z + 1, bs ++ [s[j]], by have := J.out; omega, by go_num, by go_num, by omega, by simp; omega, UN4.out, R3.out, S3.out, O3.out⟩
          · have hb2 : ((s[j].toNat : Int) != 0) = true := by rw [bne_iff_ne]; exact fun e => hb (EQ0.out.2 e)
            have UN4 := UN3.out
            rw [if_neg hb] at UN4
            have UN4 := hid UN4
            clear hb h0
            rcases hcase with h2' | ⟨h2', h3'⟩
            all_goals
              go_wp2_with (at_builtin; refine Lib.wpList_append_run _ rfl _ _ _ _ rfl _ _ rfl rfl _ _ hrun3 ?_)
              go_roundg (gk - 1)
              case measure => omega
              case rel => exact ⟨j + 1, 0, bs ++ [s[j]], by have := J.out; omega, by go_num, rfl, by omega, by simp; omega, UN4.out, R3.out, S3.out, O3.out⟩
end Go.Proofs.YtghdnefaempigaaDoor

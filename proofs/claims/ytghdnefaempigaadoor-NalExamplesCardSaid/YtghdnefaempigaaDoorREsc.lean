/- The reference's Escape. -/
import Derived.Test.YtghdnefaempigaaDoorBs
import Derived.Test.YtghdnefaempigaaDoorNalM
import Derived.Deep.LoopGhost
import Derived.Deep.DeepCutAuto
namespace Go.Proofs.YtghdnefaempigaaDoor
open Go.RowKit
set_option linter.unusedVariables false

def bytesOf (l : List UInt8) : ByteArray := ⟨l.toArray⟩
theorem take_one (s : ByteArray) (j : Nat) (h : j < s.size) : s.data.toList.take (j + 1) = s.data.toList.take j ++ [s[j]] := by
  rw [List.take_succ_eq_append_getElem (by simpa using h)]; rfl
theorem bodyF_one (l : List UInt8) (z : Nat) (b : UInt8) : bodyF z (l ++ [b]) = if stF z l = 2 ∧ b ≤ 3 then bodyF z l ++ [3] ++ [b] else bodyF z l ++ [b] := by
  rw [bodyF_append]
  simp only [bodyF]
  split <;> simp
theorem stF_one (l : List UInt8) (z : Nat) (b : UInt8) : stF z (l ++ [b]) = zNext (stF z l) b := by rw [stF_append]; rfl
theorem bodyF_len (l : List UInt8) : (bodyF 0 l).length ≤ 2 * l.length := by
  have h : ∀ (l : List UInt8) z, (bodyF z l).length ≤ 2 * l.length := by
    intro l
    induction l with
    | nil => intro z; simp [bodyF]
    | cons b l ih =>
      intro z
      unfold bodyF
      have := ih (zNext z b)
      split <;> simp only [List.length_cons] <;> omega
  exact h l 0

set_option maxHeartbeats 4000000 in
theorem rescape_any (s : ByteArray) (w : World) (hs : s.size ≤ 100000) :
    Calls Tryd.prog 17 #[.string s] w fun e w' => e = .returned (.string (bytesOf (esc s.data.toList))) ∧ Only [] w w' := by
  have hsz : s.data.toList.length = s.size := by simp
  have HS := hid hsz
  clear hsz
  go_enter Tryd.func17, Tryd.ntmps17
  go_wp2_with fail
  go_loopg [3, 4, 5] s.size (fun g out z i wr => ∃ j : Nat, j + g = s.size ∧ i = .int .i64 j ∧ z = .int .i64 (stF 0 (s.data.toList.take j)) ∧ Row wr out (bodyF 0 (s.data.toList.take j)) ∧ (∀ g, g ∈ ownOf out → w.heap.size ≤ g) ∧ Only [] w wr)
  case atStart => exact ⟨0, by omega, rfl, rfl, ⟨rfl, .inl ⟨rfl, rfl⟩⟩, by simp [ownOf, Value.ownBlock], Only.refl _ _⟩
  case round =>
    obtain ⟨j, hj, rfl, rfl, hR, hS, hO⟩ := hrel
    have hst := stF_le (s.data.toList.take j) 0 (by omega)
    have hbl := bodyF_len (s.data.toList.take j)
    have htl : (s.data.toList.take j).length ≤ j := List.length_take_le _ _
    obtain ⟨z, hz⟩ : ∃ z, z = stF 0 (s.data.toList.take j) := ⟨_, rfl⟩
    obtain ⟨bs, hbs⟩ : ∃ bs, bs = bodyF 0 (s.data.toList.take j) := ⟨_, rfl⟩
    rw [← hz] at hst ⊢
    rw [← hbs] at hR hbl
    have R := hid hR
    have S := hid hS
    have O := hid hO
    have J := hid hj
    have Z := hid hz
    have BS := hid hbs
    clear hR hS hO hz hbs
    by_cases hg : gk = 0
    · obtain rfl : j = s.size := by omega
      have i1 : ¬ (s.size : Int) < (s.size : Int) := by omega
      have EB := escF_body s.data.toList 0
      rw [show (s.data.toList.take s.size) = s.data.toList from by rw [List.take_of_length_le (by rw [HS.out]; exact Nat.le_refl _)]] at Z BS
      rw [← Z.out, ← BS.out] at EB
      have EB := hid EB
      clear hj
      by_cases h2 : z = 2
      · have h2' : ((z : Int) == 2) = true := by rw [beq_iff_eq]; omega
        obtain ⟨sv2, w2, hrun, hrow, honly, hown⟩ := append_one wr _ bs 3 3 rfl R.out (by omega)
        have E := EB.out
        rw [if_pos h2] at E
        have CV := conv_row hrow
        have CE : (⟨(bs ++ [(3 : UInt8)]).toArray⟩ : ByteArray) = bytesOf (esc s.data.toList) := by unfold bytesOf esc; rw [E]
        rw [CE] at CV
        clear CE
        have OO := hid (O.out.trans2 honly (fun x hx => .inr (S.out x hx)))
        clear h2 E honly hown hrow EB
        go_wp2_with (at_builtin; refine Lib.wpList_append_run _ rfl _ _ _ _ rfl _ _ rfl rfl _ _ hrun ?_)
        go_ret
        exact ⟨rfl, OO.out⟩
      · have h2' : ((z : Int) == 2) = false := by rw [beq_eq_false_iff_ne]; omega
        have E := EB.out
        rw [if_neg h2, List.append_nil] at E
        have CV := conv_row R.out
        have CE : (⟨bs.toArray⟩ : ByteArray) = bytesOf (esc s.data.toList) := by unfold bytesOf esc; rw [E]
        rw [CE] at CV
        clear CE
        clear h2 E EB
        go_wp2_with fail
        go_ret
        exact ⟨rfl, O.out⟩
    · have i1 : (j : Int) < (s.size : Int) := by omega
      have hjl : j < s.size := by omega
      have TK := take_one s j hjl
      have B1 := bodyF_one (s.data.toList.take j) 0 s[j]
      have S1 := stF_one (s.data.toList.take j) 0 s[j]
      rw [← TK, ← Z.out, ← BS.out] at B1
      rw [← TK, ← Z.out] at S1
      have B1 := hid B1
      have S1 := hid S1
      have b0 : 0 ≤ (s[j].toNat : Int) := Int.natCast_nonneg _
      have b1 : (s[j].toNat : Int) ≤ 255 := by have := UInt8.toNat_lt s[j]; omega
      clear hj TK
      have le3 : s[j] ≤ 3 ↔ (s[j].toNat : Int) ≤ 3 := by rw [UInt8.le_iff_toNat_le]; show s[j].toNat ≤ 3 ↔ _; omega
      have eq0 : s[j] = 0 ↔ (s[j].toNat : Int) = 0 := by rw [← UInt8.toNat_inj]; show s[j].toNat = 0 ↔ _; omega
      have LE3 := hid le3
      have EQ0 := hid eq0
      clear le3 eq0
      by_cases hin : z = 2 ∧ s[j] ≤ 3
      · obtain ⟨hz2, h3⟩ := hin
        have E := B1.out
        rw [if_pos ⟨hz2, h3⟩] at E
        have h2' : ((z : Int) == 2) = true := by rw [beq_iff_eq]; omega
        have h3' := LE3.out.1 h3
        obtain ⟨sv2, w2, hrun, hrow, honly, hown⟩ := append_one wr _ bs 3 3 rfl R.out (by omega)
        have R2 := hid hrow
        have O2 := hid (O.out.trans2 honly (fun x hx => .inr (S.out x hx)))
        have S2 := hid (show ∀ g, g ∈ ownOf sv2 → w.heap.size ≤ g from fun g hg => by
          rcases hown g hg with e | e
          · exact S.out g e
          · exact Nat.le_trans O.out.size e)
        obtain ⟨sv3, w3, hrun3, hrow3, honly3, hown3⟩ := append_one w2 _ (bs ++ [3]) s[j] _ rfl R2.out (by simp; omega)
        have R3 := hid hrow3
        have O3 := hid (O2.out.trans2 honly3 (fun x hx => .inr (S2.out x hx)))
        have S3 := hid (show ∀ g, g ∈ ownOf sv3 → w.heap.size ≤ g from fun g hg => by
          rcases hown3 g hg with e | e
          · exact S2.out g e
          · exact Nat.le_trans O2.out.size e)
        have E := hid E
        clear honly hown hrow honly3 hown3 hrow3 h3 B1
        by_cases hb : s[j] = 0
        · have hb' := EQ0.out.1 hb
          have hb2 : ((s[j].toNat : Int) != 0) = false := by rw [hb']; rfl
          have ZN := S1.out
          unfold zNext at ZN
          rw [if_pos hb, if_pos hz2] at ZN
          have ZN := hid ZN
          have HZ := hid hz2
          clear hb hb' hz2
          go_wp2_with (first | (at_builtin; refine Lib.wpList_append_run _ rfl _ _ _ _ rfl _ _ rfl rfl _ _ hrun ?_) | (at_builtin; refine Lib.wpList_append_run _ rfl _ _ _ _ rfl _ _ rfl rfl _ _ hrun3 ?_))
          go_roundg (gk - 1)
          case measure => omega
          case rel => exact ⟨j + 1, by have := J.out; omega, by go_num, by rw [ZN.out]; rfl, by rw [E.out]; exact R3.out, S3.out, O3.out⟩
        · have hb2 : ((s[j].toNat : Int) != 0) = true := by rw [bne_iff_ne]; exact fun e => hb (EQ0.out.2 e)
          have ZN := S1.out
          unfold zNext at ZN
          rw [if_neg hb] at ZN
          have ZN := hid ZN
          have HZ := hid hz2
          clear hb hz2
          go_wp2_with (first | (at_builtin; refine Lib.wpList_append_run _ rfl _ _ _ _ rfl _ _ rfl rfl _ _ hrun ?_) | (at_builtin; refine Lib.wpList_append_run _ rfl _ _ _ _ rfl _ _ rfl rfl _ _ hrun3 ?_))
          go_roundg (gk - 1)
          case measure => omega
          case rel => exact ⟨j + 1, by have := J.out; omega, by go_num, by rw [ZN.out]; rfl, by rw [E.out]; exact R3.out, S3.out, O3.out⟩
      · have E := B1.out
        rw [if_neg hin] at E
        obtain ⟨sv3, w3, hrun3, hrow3, honly3, hown3⟩ := append_one wr _ bs s[j] _ rfl R.out (by omega)
        have R3 := hid hrow3
        have O3 := hid (O.out.trans2 honly3 (fun x hx => .inr (S.out x hx)))
        have S3 := hid (show ∀ g, g ∈ ownOf sv3 → w.heap.size ≤ g from fun g hg => by
          rcases hown3 g hg with e | e
          · exact S.out g e
          · exact Nat.le_trans O.out.size e)
        have E := hid E
        clear honly3 hown3 hrow3 B1
        have zb : (z : Int) ≤ 2 := by omega
        have hcase : ((z : Int) == 2) = false ∨ (((z : Int) == 2) = true ∧ (3 : Int) < (s[j].toNat : Int)) := by
          by_cases e : z = 2
          · refine .inr ⟨by rw [beq_iff_eq]; omega, ?_⟩
            have : ¬ (s[j].toNat : Int) ≤ 3 := fun h => hin ⟨e, LE3.out.2 h⟩
            omega
          · exact .inl (by rw [beq_eq_false_iff_ne]; omega)
        have ZC : zNext z s[j] = if s[j] = 0 then z + 1 else 0 := by
          unfold zNext
          split
          · rename_i hb
            rw [if_neg (fun e => hin ⟨e, by rw [hb]; decide⟩)]
          · rfl
        have S1' := hid (S1.out.trans ZC)
        clear ZC S1 hin
        by_cases hb : s[j] = 0
        · have hb' := EQ0.out.1 hb
          have hb2 : ((s[j].toNat : Int) != 0) = false := by rw [hb']; rfl
          have ZN := S1'.out
          rw [if_pos hb] at ZN
          have ZN := hid ZN
          clear hb hb' S1'
          rcases hcase with h2' | ⟨h2', h3'⟩
          all_goals
            go_wp2_with (at_builtin; refine Lib.wpList_append_run _ rfl _ _ _ _ rfl _ _ rfl rfl _ _ hrun3 ?_)
            go_roundg (gk - 1)
            case measure => omega
            case rel => exact ⟨j + 1, by have := J.out; omega, by go_num, by rw [ZN.out]; go_num, by rw [E.out]; exact R3.out, S3.out, O3.out⟩
        · have hb2 : ((s[j].toNat : Int) != 0) = true := by rw [bne_iff_ne]; exact fun e => hb (EQ0.out.2 e)
          have ZN := S1'.out
          rw [if_neg hb] at ZN
          have ZN := hid ZN
          clear hb S1'
          rcases hcase with h2' | ⟨h2', h3'⟩
          all_goals
            go_wp2_with (at_builtin; refine Lib.wpList_append_run _ rfl _ _ _ _ rfl _ _ rfl rfl _ _ hrun3 ?_)
            go_roundg (gk - 1)
            case measure => omega
            case rel => exact ⟨j + 1, by have := J.out; omega, by go_num, by rw [ZN.out]; rfl, by rw [E.out]; exact R3.out, S3.out, O3.out⟩
end Go.Proofs.YtghdnefaempigaaDoor

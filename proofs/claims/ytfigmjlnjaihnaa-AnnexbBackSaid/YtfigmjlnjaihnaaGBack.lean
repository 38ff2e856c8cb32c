/- AnnexbBack: the walk. -/
import Derived.Test.YtfigmjlnjaihnaaKnown4
import Derived.Test.YtfigmjlnjaihnaaLFits
import Derived.Test.YtfigmjlnjaihnaaArgS
import Derived.ChangeSlices
import Derived.DataShut
namespace Go.Proofs.Ytfigmjlnjaihnaa
open Go.RowKit
set_option linter.unusedVariables false

/-- v is a slice of n numbers of 8 bits. -/
def HoldsU (w : World) (v : Value) (n : Nat) : Prop := ∃ a c, v = .slice a n c ∧ ∀ j, j < n → ∃ ad x, a = some ad ∧ w.cell? (ad.add j) = some (.int .u8 x) ∧ 0 ≤ x ∧ x ≤ 255
theorem units_all {us : List ByteArray} (h : Units us) : mayAll us = true := List.all_eq_true.2 (fun u hu => (h u hu).1)
theorem units_bare {us : List ByteArray} (h : Units us) : bare us ≤ 204 * us.length := bare_le us 201 (fun u hu => (h u hu).2)
theorem stream_zero {us : List ByteArray} {T : ByteArray} (h : Stream (datas us) T.data.toList) : Stream (datas us) (T ++ (⟨#[0]⟩ : ByteArray)).data.toList := by
  have := stream_append (datas us) [] [0] ⟨1, rfl⟩ _ h
  simpa using this
theorem stream_unit {us : List ByteArray} {T u : ByteArray} (h : Stream (datas us) T.data.toList) : Stream (datas (us ++ [u])) (T ++ (⟨#[0, 0, 1]⟩ : ByteArray) ++ u).data.toList := by
  have := stream_append (datas us) (datas [u]) ([0, 0, 1] ++ u.data.toList) ⟨0, [], by simp [zerosL], ⟨0, rfl⟩⟩ _ h
  simpa [datas] using this
set_option maxRecDepth 100000 in
set_option maxHeartbeats 8000000 in
theorem back_walk (a : Value) (l : List ByteArray) (z : Value) (zn : Nat) (W : World) (hM : MaxL W) (ha : Holds W a l) (hz : HoldsU W z zn) (hzn : zn ≤ maxLen) :
    Calls Try.prog 7 #[a, z] W fun e w' => e = .returned (.bool true) ∧ Only [] W w' := by
  have KN := hid (fun w (o : Only [] W w) => known_any w (hM.only0 o))
  have ML := hid (fun w (o : Only [] W w) => hM.only0 o)
  have FI := hid (fits_any a l W ha)
  obtain ⟨za, zc, rfl, HZ⟩ := hz
  have HZ := hid HZ
  have zb : (zn : Int) ≤ 9223372036854775807 := by unfold maxLen at hzn; omega
  have zb0 : (0 : Int) ≤ (zn : Int) := by omega
  clear ha hzn
  go_enter Try.func7, Try.ntmps7
  go_wp2_with fail
  refine FI.out.mono ?_
  rintro e w1 ⟨hE, ho⟩
  have O1 := hid ho
  clear ho
  rcases hE with rfl | ⟨sv, us, rfl, hr, hn, h40, hU, hf⟩
  · go_wp2_with fail
    refine (KN.out _ O1.out).mono ?_
    rintro e w2 ⟨rfl, ho⟩
    have O := hid (O1.out.trans ho)
    clear ho
    go_wp2_with fail
    go_ret
    exact ⟨rfl, O.out⟩
  · have H1 := hid hr.holds
    clear hr hf
    have ub := units_bare hU
    have jl := join_len us true
    have U := hid hU
    have J1 := hid (join_of us (units_all hU) (by omega) (by omega))
    have B1 := hid (back_of us (units_all hU) (by omega) (by omega))
    have sz : (strOf (joinF true us)).size ≤ 100000000 := by rw [strOf_size]; omega
    have SZ := hid sz
    have US := hid (fun (j : Nat) (u : ByteArray) (h : us[j]? = some u) => (show u.size ≤ 100000000 from by have := (hU u (List.mem_of_getElem? h)).2; omega))
    have l1 : us.length ≤ 40 := by omega
    have L1 := hid l1
    have L2 := hid (show us.length ≤ 1000000 by omega)
    have nb : (us.length : Int) ≤ 40 := by omega
    clear hn h40 hU ub jl sz l1
    go_wp2_with fail
    refine (join_any _ us _ (ML.out _ O1.out) H1.out L2.out US.out).mono ?_
    rw [J1.out]
    rintro e w2 ⟨rfl, ho⟩
    have O2 := hid (O1.out.trans ho)
    have H2 := hid (H1.out.only ho (by simp))
    clear ho
    go_wp2_with fail
    refine (split_any _ _ (ML.out _ O2.out) SZ.out).mono ?_
    rw [B1.out]
    rintro e w3 ⟨sv3, rfl, hh, ho⟩
    have O3 := hid (O2.out.trans ho)
    have H3 := hid (H2.out.only ho (by simp))
    have K3 := hid hh
    clear ho hh
    go_wp2_with fail
    refine (eqs_any _ _ _ _ _ K3.out H3.out L2.out L2.out).mono ?_
    rintro e w4 ⟨rfl, ho⟩
    have O4 := hid (O3.out.trans ho)
    have H4 := hid (H3.out.only ho (by simp))
    have ED : decide (us = us) = true := decide_eq_true rfl
    clear ho
    rw [ED]
    clear ED
    obtain ⟨ua, uc, rfl, HA⟩ := H4.out
    have HA := hid HA
    go_wp2_with fail
    go_loopg [11, 12] (us.length + 1) (fun g t i wr => ∃ (j : Nat) (T : ByteArray), j + g = us.length + 1 ∧ i = .int .i64 j ∧ t = .string T ∧ Stream (datas (us.take j)) T.data.toList ∧ T.size ≤ 220 * j ∧ wr = w4)
    case atStart => exact ⟨0, ⟨#[]⟩, by omega, rfl, rfl, ⟨0, rfl⟩, Nat.le_refl _, rfl⟩
    case round =>
      obtain ⟨j, T, hj, rfl, rfl, hS, hT, hw⟩ := hrel
      obtain rfl : w4 = wr := hw.symm
      have J := hid hj
      have S := hid hS
      have TB := hid hT
      clear hS hT
      have jb : (j : Int) ≤ 41 := by omega
      have j0 : (0 : Int) ≤ (j : Int) := by omega
      by_cases hg : gk = 0
      · have j1 : ¬ (j : Int) ≤ (us.length : Int) := by omega
        have SP := hid (split_of us T (units_all U.out) (by have := S.out; rwa [List.take_of_length_le (by omega)] at this) (by have := TB.out; omega) (by have := L1.out; omega))
        have TZ := hid (show T.size ≤ 100000000 by have := TB.out; omega)
        clear hj hg
        go_wp2_with fail
        refine (split_any _ _ (ML.out _ O4.out) TZ.out).mono ?_
        rw [SP.out]
        rintro e w5 ⟨sv5, rfl, hh, ho⟩
        have O5 := hid (O4.out.trans ho)
        have H5 := hid (H4.out.only ho (by simp))
        have K5 := hid hh
        clear ho hh
        go_wp2_with fail
        refine (eqs_any _ _ _ _ _ K5.out H5.out L2.out L2.out).mono ?_
        rintro e w6 ⟨rfl, ho⟩
        have O6 := hid (O5.out.trans ho)
        have ED : decide (us = us) = true := decide_eq_true rfl
        clear ho
        rw [ED]
        clear ED
        go_wp2_with fail
        refine (KN.out _ O6.out).mono ?_
        rintro e w7 ⟨rfl, ho⟩
        have O7 := hid (O6.out.trans ho)
        clear ho
        go_wp2_with fail
        go_ret
        exact ⟨rfl, O7.out⟩
      · have j1 : (j : Int) ≤ (us.length : Int) := by omega
        obtain ⟨g, rfl⟩ : ∃ g, gk = g + 1 := ⟨gk - 1, by omega⟩
        clear hj hg
        go_wp2_with fail
        go_loopg [11, 13] 6 (fun g t i wr => ∃ (q : Nat) (T : ByteArray), q + g = 6 ∧ i = .int .i64 q ∧ t = .string T ∧ Stream (datas (us.take j)) T.data.toList ∧ T.size ≤ 220 * j + q ∧ wr = w4)
        case atStart => exact ⟨0, T, by omega, rfl, rfl, S.out, by have := TB.out; omega, rfl⟩
        case round =>
          obtain ⟨q, T2, hq, rfl, rfl, hS2, hT2, hw⟩ := hrel
          obtain rfl : w4 = wr := hw.symm
          have Q := hid hq
          have S2 := hid hS2
          have T2B := hid hT2
          clear hS2 hT2
          have qb : (q : Int) ≤ 6 := by omega
          have e1 : (⟨#[0]⟩ : ByteArray).size = 1 := rfl
          have e3 : (⟨#[0, 0, 1]⟩ : ByteArray).size = 3 := rfl
          have tb : T2.size ≤ 10000 := by have := T2B.out; have := Q.out; omega
          have c0 : T2.size + (⟨#[0]⟩ : ByteArray).size ≤ 9223372036854775807 := by omega
          have c1 : (T2.size : Int) + 1 ≤ 9223372036854775807 := by omega
          have c2 : T2.size + (⟨#[0, 0, 1]⟩ : ByteArray).size ≤ 9223372036854775807 := by omega
          have c3 : (T2.size : Int) + 3 ≤ 9223372036854775807 := by omega
          have q0 : (0 : Int) ≤ (q : Int) := by omega
          by_cases hz : j < zn
          · have z1 : (j : Int) < (zn : Int) := by omega
            obtain ⟨zd, x, rfl, hzx, x0, x255⟩ := HZ.out j hz
            have zx := O4.out.cell hzx (by simp)
            by_cases hx : (q : Int) < x % 6
            · obtain ⟨h, rfl⟩ : ∃ h, gk = h + 1 := ⟨gk - 1, by omega⟩
              have SN := hid (stream_zero S2.out)
              clear hq hz hzx
              go_wp2_with fail
              go_roundg h
              case measure => omega
              case rel => exact ⟨q + 1, T2 ++ (⟨#[0]⟩ : ByteArray), by have := Q.out; omega, by go_num, rfl, SN.out, by have := T2B.out; simp [ByteArray.size_append]; have e : (⟨#[0]⟩ : ByteArray).size = 1 := rfl; omega, rfl⟩
            · clear hz hzx
              by_cases hu : j < us.length
              · have m1 : (j : Int) < (us.length : Int) := by omega
                obtain ⟨u, hls⟩ : ∃ u, us[j]? = some u := ⟨us[j]'hu, List.getElem?_eq_getElem _⟩
                obtain ⟨ad, rfl, hx⟩ := HA.out j u hls
                have TS : us.take (j + 1) = us.take j ++ [u] := by
                  obtain ⟨hj', rfl⟩ := List.getElem?_eq_some_iff.1 hls
                  exact List.take_succ_eq_append_getElem hj'
                have su := (U.out u (List.mem_of_getElem? hls)).2
                have c4 : (T2 ++ (⟨#[0, 0, 1]⟩ : ByteArray)).size + u.size ≤ 9223372036854775807 := by rw [ByteArray.size_append]; omega
                have c5 : T2.size + 3 + u.size ≤ 9223372036854775807 := by omega
                have c6 : (T2.size : Int) + 3 + (u.size : Int) ≤ 9223372036854775807 := by omega
                have SU := hid su
                have SN := hid (stream_unit (u := u) S2.out)
                rw [← TS] at SN
                clear hq hu hls TS su
                go_wp2_with fail
                go_roundg g
                case measure => omega
                case rel => exact ⟨j + 1, T2 ++ (⟨#[0, 0, 1]⟩ : ByteArray) ++ u, by have := J.out; omega, by go_num, rfl, SN.out, by have := T2B.out; have := SU.out; have := Q.out; simp [ByteArray.size_append]; have e : (⟨#[0, 0, 1]⟩ : ByteArray).size = 3 := rfl; omega, rfl⟩
              · have m1 : ¬ (j : Int) < (us.length : Int) := by omega
                have TS : us.take (j + 1) = us.take j := by rw [List.take_of_length_le (by omega), List.take_of_length_le (by omega)]
                have SN := hid S2.out
                rw [← TS] at SN
                clear hq hu TS
                go_wp2_with fail
                go_roundg g
                case measure => omega
                case rel => exact ⟨j + 1, T2, by have := J.out; omega, by go_num, rfl, SN.out, by have := T2B.out; have := Q.out; omega, rfl⟩
          · have z1 : ¬ (j : Int) < (zn : Int) := by omega
            clear hz
            by_cases hu : j < us.length
            · have m1 : (j : Int) < (us.length : Int) := by omega
              obtain ⟨u, hls⟩ : ∃ u, us[j]? = some u := ⟨us[j]'hu, List.getElem?_eq_getElem _⟩
              obtain ⟨ad, rfl, hx⟩ := HA.out j u hls
              have TS : us.take (j + 1) = us.take j ++ [u] := by
                obtain ⟨hj', rfl⟩ := List.getElem?_eq_some_iff.1 hls
                exact List.take_succ_eq_append_getElem hj'
              have su := (U.out u (List.mem_of_getElem? hls)).2
              have c4 : (T2 ++ (⟨#[0, 0, 1]⟩ : ByteArray)).size + u.size ≤ 9223372036854775807 := by rw [ByteArray.size_append]; omega
              have c5 : T2.size + 3 + u.size ≤ 9223372036854775807 := by omega
              have c6 : (T2.size : Int) + 3 + (u.size : Int) ≤ 9223372036854775807 := by omega
              have SU := hid su
              have SN := hid (stream_unit (u := u) S2.out)
              rw [← TS] at SN
              clear hq hu hls TS su
              go_wp2_with fail
              go_roundg g
              case measure => omega
              case rel => exact ⟨j + 1, T2 ++ (⟨#[0, 0, 1]⟩ : ByteArray) ++ u, by have := J.out; omega, by go_num, rfl, SN.out, by have := T2B.out; have := SU.out; have := Q.out; simp [ByteArray.size_append]; have e : (⟨#[0, 0, 1]⟩ : ByteArray).size = 3 := rfl; omega, rfl⟩
            · have m1 : ¬ (j : Int) < (us.length : Int) := by omega
              have TS : us.take (j + 1) = us.take j := by rw [List.take_of_length_le (by omega), List.take_of_length_le (by omega)]
              have SN := hid S2.out
              rw [← TS] at SN
              clear hq hu TS
              go_wp2_with fail
              go_roundg g
              case measure => omega
              case rel => exact ⟨j + 1, T2, by have := J.out; omega, by go_num, rfl, SN.out, by have := T2B.out; have := Q.out; omega, rfl⟩
open Go.ChangeShapes Go.WideShapes Go.ChangeAt
theorem cells_u8 : Try.prog.cellsOf 5 = 1 := by kernel_rfl
theorem open_bytesl {H : Type} {enc : TypeId × Value → H} {w : World} {base : Nat} {v : Value} {d : DataW H} {p : List MemPlace} (k : Value.okWide Try.prog w .any base 36 v) (h : DataW.Trod enc Try.prog w 0 (fun _ => true) true 36 v d p) :
    ∃ n, HoldsU w v n ∧ n ≤ maxLen := by
  obtain ⟨a, len, cap, rfl⟩ := okWide_slice und_bytes k
  obtain ⟨fuel, hf⟩ := h
  rcases open_ints und_bytes und_u8 cells_u8 hf with ⟨hcs, _⟩ | ⟨a', l', c', ss, hcs, _, hl, hm, hz, _, hcell, hsz⟩
  · simp [Value.cells] at hcs
    obtain ⟨rfl, rfl, rfl⟩ := hcs
    exact ⟨0, ⟨none, 0, rfl, fun j hj => absurd hj (by omega)⟩, by unfold maxLen; omega⟩
  · simp [Value.cells] at hcs
    obtain ⟨rfl, rfl, rfl⟩ := hcs
    have hlen : len ≤ ss.length := by rw [hz]; split <;> omega
    refine ⟨len, ⟨some a', cap, rfl, fun j hj => ?_⟩, by omega⟩
    have hj2 : j < ss.length := by omega
    have hw := (Lit.wf_int_iff .u8 ss[j]).1 (hsz _ (List.getElem_mem hj2))
    have e1 : IntKind.u8.min = 0 := rfl
    have e2 : IntKind.u8.max = 255 := by decide
    refine ⟨a', ss[j], rfl, ?_, by omega, by omega⟩
    rw [hcell j hj2, List.getD_eq_getElem?_getD, List.getElem?_eq_getElem hj2]
    rfl
theorem annexbBack_core {H : Type} {enc : TypeId × Value → H} (W : World) (hM : MaxL W) (base : Nat)
    (v0 : Value) (d0 : DataW H) (p0 : List MemPlace) (k0 : Value.okWide Try.prog W .any base 23 v0) (h0 : DataW.Trod enc Try.prog W 0 (fun _ => true) true 23 v0 d0 p0)
    (v1 : Value) (d1 : DataW H) (p1 : List MemPlace) (k1 : Value.okWide Try.prog W .any base 36 v1) (h1 : DataW.Trod enc Try.prog W 0 (fun _ => true) true 36 v1 d1 p1) :
    Calls Try.prog 7 #[v0, v1] W fun e w' => e = .returned (.bool true) ∧ Below W.heap.size W w' := by
  obtain ⟨l, hl, _, _⟩ := open_strsl k0 h0
  obtain ⟨n, hn, hb⟩ := open_bytesl k1 h1
  exact (back_walk v0 l v1 n W hM hl hn hb).mono fun e w' ⟨he, ho⟩ => ⟨he, ho.below (Nat.le_refl _) (by simp)⟩
end Go.Proofs.Ytfigmjlnjaihnaa

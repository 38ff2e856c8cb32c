/- put, get, code, begins: what the statements on codes call. -/
import Derived.Test.YtgfcooaobfpdiaaCodeM
namespace Go.Proofs.Ytgfcooaobfpdiaa
open Go.RowKit
set_option linter.unusedVariables false

theorem PutLeft.before {w w1 w2 : World} {b : Nat} {sv sv' : Value} {l : List Bool} (o : Only [] w w1) (h : PutLeft w1 w2 b sv sv' l) : PutLeft w w2 b sv sv' l :=
  ⟨h.wr, fun g hg => by
    rcases h.own g hg with e | e
    · exact .inl e
    · exact .inr (Nat.le_trans o.size e), (o.mono (fun _ _ h => by cases h)).trans h.only⟩

set_option maxRecDepth 100000 in
set_option maxHeartbeats 2000000 in
theorem put_call (b : Nat) (sv : Value) (l : List Bool) (c m k v : Nat) (w : World) (h : Wr w b sv l) (hc : c ≤ 255) (ok : OkV c m k v) (hsz : l.length + 128 ≤ 281474976710656) :
    Calls Try.prog 38 #[.pointer (some ⟨b, 0, none⟩), .agg #[.int .u8 c, .int .u64 m, .int .i64 k, .int .u64 v]] w fun e w' => e = .returned (.int .i64 0) ∧ ∃ sv', PutLeft w w' b sv sv' (l ++ codeOf c m k v) := by
  have H := hid h
  have hv64 := ok.lt64
  have OA := hid (fun o => (Only.refl [] w).alloc o)
  clear h
  by_cases c0 : c % 4 = 0
  · have c0' : ((c : Int) % 4 == 0) = true := by rw [beq_iff_eq]; omega
    rw [show codeOf c m k v = ueBits v from by unfold codeOf; rw [if_pos c0]]
    have P := hid (fun w h => putue_any b sv l v w h hv64 hsz)
    rw [show wrUe l v = (0, l ++ ueBits v) from by unfold wrUe; rw [if_neg (by have := ok.ue (by omega); omega)]] at P
    clear c0 ok hsz
    go_enter Try.func38, Try.ntmps38
    go_wp2_with fail
    refine (P.out _ (H.out.only (OA.out _) (by simp) (by simp))).mono ?_
    rintro e w1 ⟨rfl, sv', hP⟩
    have L := hid (hP.before (OA.out _))
    clear hP
    go_wp2_with fail
    go_ret
    exact ⟨rfl, sv', L.out⟩
  have c0' : ((c : Int) % 4 == 0) = false := by rw [beq_eq_false_iff_ne]; omega
  by_cases c1 : c % 4 = 1
  · have c1' : ((c : Int) % 4 == 1) = true := by rw [beq_iff_eq]; omega
    rw [show codeOf c m k v = ueBits (seNum ((v : Int) - 2147483647)) from by unfold codeOf; rw [if_neg c0, if_pos c1]]
    have P := hid (fun w h => putse_any b sv l ((v : Int) - 2147483647) w h hsz)
    have hv := ok.ue (by omega)
    rw [show wrSe l ((v : Int) - 2147483647) = (0, l ++ ueBits (seNum ((v : Int) - 2147483647))) from by unfold wrSe; rw [if_neg (by omega)]] at P
    have hv' : (v : Int) ≤ 4294967294 := by omega
    clear c0 c1 ok hsz hv
    go_enter Try.func38, Try.ntmps38
    go_wp2_with fail
    refine (P.out _ (H.out.only (OA.out _) (by simp) (by simp))).mono ?_
    rintro e w1 ⟨rfl, sv', hP⟩
    have L := hid (hP.before (OA.out _))
    clear hP
    go_wp2_with fail
    go_ret
    exact ⟨rfl, sv', L.out⟩
  have c1' : ((c : Int) % 4 == 1) = false := by rw [beq_eq_false_iff_ne]; omega
  by_cases c2 : c % 4 = 2
  · have c2' : ((c : Int) % 4 == 2) = true := by rw [beq_iff_eq]; omega
    rw [show codeOf c m k v = teBits m v from by unfold codeOf; rw [if_neg c0, if_neg c1, if_pos c2]]
    have P := hid (fun w h => putte_any b sv l m v w h hsz)
    have hv := ok.te c2
    have hm := ok.mm
    rw [show wrTe l m v = (0, l ++ teBits m v) from by
      unfold wrTe teBits
      rw [if_neg (by omega)]
      split
      · simp
      · split <;> rfl] at P
    clear c0 c1 c2 ok hsz hv
    go_enter Try.func38, Try.ntmps38
    go_wp2_with fail
    refine (P.out _ (H.out.only (OA.out _) (by simp) (by simp))).mono ?_
    rintro e w1 ⟨rfl, sv', hP⟩
    have L := hid (hP.before (OA.out _))
    clear hP
    go_wp2_with fail
    go_ret
    exact ⟨rfl, sv', L.out⟩
  · have c2' : ((c : Int) % 4 == 2) = false := by rw [beq_eq_false_iff_ne]; omega
    rw [show codeOf c m k v = ukBits k v from by unfold codeOf; rw [if_neg c0, if_neg c1, if_neg c2]]
    have P := hid (fun w h => putuk_yes b sv l k v w h ok.kk hv64 (ok.uk (by omega)) hsz)
    clear c0 c1 c2 ok hsz
    go_enter Try.func38, Try.ntmps38
    go_wp2_with fail
    refine (P.out _ (H.out.only (OA.out _) (by simp) (by simp))).mono ?_
    rintro e w1 ⟨rfl, sv', hP⟩
    have L := hid (hP.before (OA.out _))
    clear hP
    go_wp2_with fail
    go_ret
    exact ⟨rfl, sv', L.out⟩

set_option maxRecDepth 100000 in
set_option maxHeartbeats 2000000 in
theorem get_call (b : Nat) (s : ByteArray) (pos c m k v : Nat) (w : World) (h : Rd w b s pos) (hc : c ≤ 255) (ok : OkV c m k v) (hb : Begins s pos (codeOf c m k v)) :
    Calls Try.prog 41 #[.pointer (some ⟨b, 0, none⟩), .agg #[.int .u8 c, .int .u64 m, .int .i64 k, .int .u64 v]] w fun e w' => e = .returned (.tuple #[.int .u64 v, .int .i64 0]) ∧ Rd w' b s (pos + (codeOf c m k v).length) ∧ Only [b] w w' := by
  have H := hid h
  have hv64 := ok.lt64
  have OA := hid (fun o => (Only.refl [] w).alloc o)
  clear h
  by_cases c0 : c % 4 = 0
  · have c0' : ((c : Int) % 4 == 0) = true := by rw [beq_iff_eq]; omega
    rw [show codeOf c m k v = ueBits v from by unfold codeOf; rw [if_pos c0]] at hb ⊢
    have P := hid (fun w h => ue_any b s pos w h)
    rw [read_ue (ok.ue (by omega)) hb] at P
    generalize (ueBits v).length = L at *
    clear c0 ok hb
    go_enter Try.func41, Try.ntmps41
    go_wp2_with fail
    refine (P.out _ (H.out.only (OA.out _) (by simp))).mono ?_
    rintro e w1 ⟨rfl, hR, hO⟩
    have O1 := hid (((OA.out _).mono (T := [b]) (by simp)).trans hO)
    clear hO
    go_wp2_with fail
    go_ret2
    exact ⟨rfl, hR, O1.out⟩
  have c0' : ((c : Int) % 4 == 0) = false := by rw [beq_eq_false_iff_ne]; omega
  by_cases c1 : c % 4 = 1
  · have c1' : ((c : Int) % 4 == 1) = true := by rw [beq_iff_eq]; omega
    rw [show codeOf c m k v = ueBits (seNum ((v : Int) - 2147483647)) from by unfold codeOf; rw [if_neg c0, if_pos c1]] at hb ⊢
    have P := hid (fun w h => se_any b s pos w h)
    have hv := ok.ue (by omega)
    rw [read_ue (seNum_le v hv) hb] at P
    simp only [se_back v hv] at P
    have hv' : (v : Int) ≤ 4294967294 := by omega
    have fin : (v : Int) - 2147483647 + 2147483647 = (v : Int) := by omega
    generalize (ueBits (seNum ((v : Int) - 2147483647))).length = L at *
    clear c0 c1 ok hb hv
    go_enter Try.func41, Try.ntmps41
    go_wp2_with fail
    refine (P.out _ (H.out.only (OA.out _) (by simp))).mono ?_
    rintro e w1 ⟨rfl, hR, hO⟩
    have O1 := hid (((OA.out _).mono (T := [b]) (by simp)).trans hO)
    clear hO
    go_wp2_with fail
    go_ret2
    exact ⟨rfl, hR, O1.out⟩
  have c1' : ((c : Int) % 4 == 1) = false := by rw [beq_eq_false_iff_ne]; omega
  by_cases c2 : c % 4 = 2
  · have c2' : ((c : Int) % 4 == 2) = true := by rw [beq_iff_eq]; omega
    rw [show codeOf c m k v = teBits m v from by unfold codeOf; rw [if_neg c0, if_neg c1, if_pos c2]] at hb ⊢
    have P := hid (fun w h => te_any b s pos m w h)
    rw [read_te ok.mm (ok.te c2) hb] at P
    generalize (teBits m v).length = L at *
    clear c0 c1 c2 ok hb
    go_enter Try.func41, Try.ntmps41
    go_wp2_with fail
    refine (P.out _ (H.out.only (OA.out _) (by simp))).mono ?_
    rintro e w1 ⟨rfl, hR, hO⟩
    have O1 := hid (((OA.out _).mono (T := [b]) (by simp)).trans hO)
    clear hO
    go_wp2_with fail
    go_ret2
    exact ⟨rfl, hR, O1.out⟩
  · have c2' : ((c : Int) % 4 == 2) = false := by rw [beq_eq_false_iff_ne]; omega
    rw [show codeOf c m k v = ukBits k v from by unfold codeOf; rw [if_neg c0, if_neg c1, if_neg c2]] at hb ⊢
    have P := hid (fun w h => uk_yes b s pos k w h ok.kk)
    rw [read_uk (Nat.lt_succ_of_le (ok.uk (by omega))) hb] at P
    generalize (ukBits k v).length = L at *
    clear c0 c1 c2 ok hb
    go_enter Try.func41, Try.ntmps41
    go_wp2_with fail
    refine (P.out _ (H.out.only (OA.out _) (by simp))).mono ?_
    rintro e w1 ⟨rfl, hR, hO⟩
    have O1 := hid (((OA.out _).mono (T := [b]) (by simp)).trans hO)
    clear hO
    go_wp2_with fail
    go_ret2
    exact ⟨rfl, hR, O1.out⟩

set_option maxHeartbeats 1000000 in
theorem code_any (c m k v : Nat) (w : World) (hc : c ≤ 255) (ok : OkV c m k v) :
    Calls Try.prog 42 #[.agg #[.int .u8 c, .int .u64 m, .int .i64 k, .int .u64 v]] w fun e w' => e = .returned (.string (chars (codeOf c m k v))) ∧ Only [] w w' := by
  have P := hid (fun b sv w h => put_call b sv [] c m k v w h hc ok (by decide))
  have BT := hid (fun b sv w h => bits_any b sv (codeOf c m k v) w h)
  rw [List.nil_append] at P
  generalize codeOf c m k v = L at *
  clear ok
  go_enter Try.func42, Try.ntmps42
  go_wp2_with fail
  refine (write_any _).mono ?_
  rintro e w1 ⟨rfl, hw1, ho1⟩
  have O1 := hid (((Only.refl [] w).alloc _).trans ho1)
  have x0 := ho1.cell (p := ⟨w.heap.size, 0, none⟩) (v := .int .u8 c) (by simp) (by simp)
  have x1 := ho1.cell (p := ⟨w.heap.size, 1, none⟩) (v := .int .u64 m) (by simp) (by simp)
  have x2 := ho1.cell (p := ⟨w.heap.size, 2, none⟩) (v := .int .i64 k) (by simp) (by simp)
  have x3 := ho1.cell (p := ⟨w.heap.size, 3, none⟩) (v := .int .u64 v) (by simp) (by simp)
  obtain ⟨b, hb⟩ : ∃ b, b = w.heap.size + 1 := ⟨_, rfl⟩
  have hbw : w.heap.size ≤ b := by omega
  rw [World.size_alloc, ← hb] at hw1
  try rw [World.size_alloc]
  rw [← hb]
  have W1 := hid hw1
  clear ho1 hb
  go_wp2_with fail
  refine (P.out b _ w1 W1.out).mono ?_
  rintro e w2 ⟨rfl, sv2, hp2⟩
  have O2 := hid (only_put hp2 ⟨O1.out, hbw, by simp [ownOf, Value.ownBlock]⟩)
  have C2 := hid (BT.out b sv2 w2 hp2.wr)
  clear hp2 hw1
  go_wp2_with fail
  refine C2.out.mono ?_
  rintro e w3 ⟨rfl, ho3⟩
  go_wp2_with fail
  go_ret
  exact ⟨rfl, O2.out.1.trans ho3⟩

theorem chars_inj {a b : List Bool} (h : chars a = chars b) : a = b := by
  unfold chars at h
  have h1 : (a.map fun b => if b then (49 : UInt8) else 48) = b.map fun b => if b then (49 : UInt8) else 48 := by
    have := congrArg (fun x => x.data.toList) h
    simpa using this
  exact (List.map_inj_right (fun x y e => by cases x <;> cases y <;> simp_all)).1 h1

theorem chars_take (a : List Bool) (n : Nat) : ((chars a).extract 0 n).toList = (chars (a.take n)).toList := by
  rw [Lib.toList_data, Lib.toList_data]
  unfold chars
  simp [ByteArray.data_extract]
theorem chars_toList (a : List Bool) : (chars a).toList = a.map fun b => if b then (49 : UInt8) else 48 := by
  rw [Lib.toList_data]
  unfold chars
  simp
theorem chars_eqB (a b : List Bool) : ((chars a).toList == (chars b).toList) = decide (a = b) := by
  rw [chars_toList, chars_toList]
  by_cases h : a = b
  · subst h; simp
  · rw [decide_eq_false h, beq_eq_false_iff_ne]
    exact fun e => h ((List.map_inj_right (fun x y e => by cases x <;> cases y <;> simp_all)).1 e)

set_option maxHeartbeats 400000 in
theorem begins_no (a b : List Bool) (w : World) (ha : a.length ≤ 1000) (hb : b.length ≤ 1000) (h : ¬ b <+: a) :
    Calls Try.prog 43 #[.string (chars a), .string (chars b)] w fun e w' => e = .returned (.bool false) ∧ w = w' := by
  have sa := size_chars a
  have sb := size_chars b
  by_cases hl : a.length < b.length
  · have hl' : ((chars a).size : Int) < ((chars b).size : Int) := by omega
    generalize chars a = x at *
    generalize chars b = y at *
    clear sa sb
    go_enter Try.func43, Try.ntmps43
    go_wp2
    go_ret
    exact ⟨rfl, rfl⟩
  · have hl' : ((chars b).size : Int) ≤ ((chars a).size : Int) := by omega
    have hF : (((chars a).extract 0 (chars b).size).toList == (chars b).toList) = false := by
      rw [chars_take, chars_eqB, decide_eq_false_iff_not, sb]
      exact fun e => h (by rw [← e]; exact List.take_prefix _ _)
    generalize chars a = x at *
    generalize chars b = y at *
    clear sa sb
    go_enter Try.func43, Try.ntmps43
    go_wp2
    go_ret
    exact ⟨rfl, rfl⟩
end Go.Proofs.Ytgfcooaobfpdiaa

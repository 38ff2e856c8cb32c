/- The laws' helpers: a store of both parameter sets. -/
import Derived.Test.YtojahafmfcfpaaaGreatDoorHnA
import Derived.Test.YtojahafmfcfpaaaGreatDoorMg13
namespace Go.Proofs.YtojahafmfcfpaaaGreatDoor
open Go.RowKit
set_option linter.unusedVariables false
set_option linter.unusedSimpArgs false

set_option maxRecDepth 100000 in
set_option maxHeartbeats 4000000 in
theorem hstore_any (un : UN) (w : World) (hs : okS un.s = true) (hp : okP un.p = true) :
    Calls Tryz.prog 41 #[uV un] w fun e w' => ∃ l Ls, e = .returned (.pointer (some ⟨l, 0, none⟩)) ∧ StL w' l Ls (upd (fun _ => none) un.s.id un.s) (upd (fun _ => none) un.p.id un.p) 2 ∧ Only [] w w' ∧ ∀ y, y ∈ Ls → w.heap.size ≤ y := by
  have HS := hid hs
  have HP := hid hp
  obtain ⟨W, hW⟩ : ∃ W, W = w.alloc (.cells (uL un).toArray 31) := ⟨_, rfl⟩
  have BU := hid (show Blk W w.heap.size 31 (uL un).toArray from hW ▸ Blk.new w _ _)
  have OW := hid (show Only [] w W from hW ▸ (Only.refl [] w).alloc _)
  obtain ⟨X, hX⟩ : ∃ X, X = w.heap.size := ⟨_, rfl⟩
  rw [← hX] at BU
  have XW := hid (show X < W.heap.size ∧ w.heap.size ≤ X from ⟨BU.out.lt, by omega⟩)
  clear hs hp
  simp only [uV, uL, pL, sL, List.cons_append, List.nil_append] at hW ⊢
  go_enter Tryz.func41, Tryz.ntmps41
  go_upto_region 1 with (fail)
  rw [← hW, ← hX]
  clear hW hX
  go_wp2_with fail
  refine (new_any W).mono ?_
  rintro e w1 ⟨rfl, s1, o1⟩
  obtain ⟨S, hS⟩ : ∃ S, S = W.heap.size := ⟨_, rfl⟩
  rw [← hS] at s1 ⊢
  have S1 := hid s1
  have O1 := hid o1
  have HW := hid hS
  clear s1 o1 hS
  go_wp2_with (refine load_atA rfl 29 _ rfl ⟨X, 12, none⟩ (sL un.s) rfl (ho_spsU (BU.out.only O1.out (by simp))) ?_)
  refine (PutSps_any S1.out un.s HS.out (by unfold maxLen; omega)).mono ?_
  rintro e w2 ⟨rfl, L2, s2, o2, l2⟩
  have S2 := hid s2
  have O2 := hid (own_stepA O1.out (L := [S]) (fun y hy => by rw [List.mem_singleton.1 hy, HW.out]; exact Nat.le_refl _) o2 l2)
  clear s2 o2 l2 S1 O1
  go_wp2_with (refine load_atA rfl 27 _ rfl ⟨X, 2, none⟩ (pL un.p) rfl (ho_ppsU (BU.out.only O2.out.1 (by simp))) ?_)
  refine (PutPps_any S2.out un.p HP.out (by unfold maxLen; omega)).mono ?_
  rintro e w3 ⟨rfl, L3, s3, o3, l3⟩
  have S3 := hid s3
  have O3 := hid (own_stepA O2.out.1 O2.out.2 o3 l3)
  clear s3 o3 l3 S2 O2
  go_wp2_with fail
  go_ret
  exact ⟨S, L3, rfl, S3.out, OW.out.trans O3.out.1, fun y hy => Nat.le_trans OW.out.size (O3.out.2 y hy)⟩
theorem StL.alls {w : World} {b n : Nat} {L : List Nat} {f : Int → Option SV} {g : Int → Option PV} (h : StL w b L f g n) : AllS f ∧ AllP g := by
  obtain ⟨m1, m2, _, k⟩ := h
  exact ⟨k.a1, k.a2⟩
theorem numB_le {has : Bool} {v : Int} {c : Cd} (k : cdOk c) (h : numE has v c = 0) : (numB has v c).length ≤ 13000 := by
  cases has
  · simp [numB]
  · simp only [numE, if_true] at h
    simp only [numB, if_true]
    have := cdBits_le k h
    omega
theorem flagB_le (has v : Bool) : (flagB has v).length ≤ 1 := by cases has <;> simp [flagB]
theorem lstB_le {has m : Bool} {l : List (Int × Int × Int)} (h : lstE has m l = 0) : (lstB has m l).length ≤ 13000 := by
  cases has
  · simp [lstB]
  · simp only [lstE, if_true] at h
    simp only [lstB, if_true]
    exact listB_le h
theorem stepB_le {un : UN} {x : HV} (hs : okS un.s = true) (hp : okP un.p = true) (j : Nat) (h : stepE un x j = 0) : (stepB un x j).length ≤ 13000 := by
  obtain ⟨k1, k2, k3⟩ := unOk_cd hs hp
  match j, h with
  | 0, h => exact numB_le k1 h
  | 1, h => exact numB_le cd1 h
  | 2, h => exact numB_le k2 h
  | 3, h => exact Nat.le_trans (flagB_le _ _) (by omega)
  | 4, h => exact numB_le cd2 h
  | 5, h => exact Nat.le_trans (flagB_le _ _) (by omega)
  | 6, h => exact lstB_le h
  | 7, h => show (flagB _ _ ++ flagB _ _).length ≤ 13000; rw [List.length_append]; have := flagB_le un.idr x.f0; have := flagB_le un.idr x.f1; omega
  | 8, h => exact Nat.le_trans (flagB_le _ _) (by omega)
  | 9, h => exact lstB_le h
  | 10, h => exact numB_le cd3 h
  | 11, h => exact numB_le k3 h
  | 12, h => exact numB_le cd3 h
  | 13, h => exact numB_le cd4 h
  | 14, h => exact numB_le cd4 h
  | n + 15, h => simp [stepB]
theorem restB_le {un : UN} {x : HV} (hs : okS un.s = true) (hp : okP un.p = true) : ∀ (k j : Nat), restE un x k j = 0 → (restB un x k j).length ≤ k * 13000 := by
  intro k
  induction k with
  | zero => intro j _; simp [restB]
  | succ k ih =>
    intro j h
    obtain ⟨h1, h2⟩ := restE_cons h
    have := stepB_le hs hp j h1
    have := ih (j + 1) h2
    rw [restB, List.length_append]
    omega
theorem bitsH_le {un : UN} {x : HV} (h : checkH un x = 0) : (bitsH un x).length ≤ 200000 := by
  obtain ⟨h1, h2, h3⟩ := checkH_ok h
  obtain ⟨u1, u2, u3, u4⟩ := un_ok h1
  obtain ⟨b1, b2, b3, b4, b5, b6, b7⟩ := begin_ok u2 u3 h2
  have := len_beginB x b1.1 b2 b6 b7
  have := restB_le u2 u3 15 0 h3
  unfold bitsH
  rw [List.length_append]
  omega
theorem bitAt_leftH (s t : ByteArray) (i : Nat) (h : i < 8 * s.size) : bitAt (s ++ t) i = bitAt s i := by
  unfold bitAt
  have e : (s ++ t).data = s.data ++ t.data := by simp
  have hi : i / 8 < s.data.size := by show i / 8 < s.size; omega
  rw [e, Array.getD_eq_getD_getElem?, Array.getElem?_append_left hi, ← Array.getD_eq_getD_getElem?]
theorem begins_H (l : List Bool) (t : ByteArray) : Begins (pack l ++ t) 0 l := by
  have h : Begins (pack l) 0 l := begins_of ⟨[], by simp⟩
  have hz : (pack l ++ t).size = (pack l).size + t.size := ByteArray.size_append
  refine ⟨by have := h.1; omega, fun j hj => ?_⟩
  rw [bitAt_leftH (pack l) t (0 + j) (by have := h.1; omega)]
  exact h.2 j hj
theorem getR_store (un : UN) (h : unE un = 0) : getR (upd (fun _ => none) un.s.id un.s) (upd (fun _ => none) un.p.id un.p) un.p.id = (un.p, un.s, 0) := by
  obtain ⟨u1, u2, u3, u4⟩ := un_ok h
  have := (okP_id u3).1
  unfold getR
  rw [if_neg (by omega), upd_same]
  simp only [u4, upd_same]
end Go.Proofs.YtojahafmfcfpaaaGreatDoor

/- The program's command: what is read behind an Op that is not the end. -/
import Derived.Test.YtdkmeldcpamnnaaDoorMpC
import Derived.Test.YtdkmeldcpamnnaaDoorRMr
import Derived.Test.YtdkmeldcpamnnaaDoorUk
namespace Go.Proofs.YtdkmeldcpamnnaaDoor
open Go.RowKit
set_option linter.unusedVariables false

theorem ue_three (b : Nat) (s : ByteArray) (pos : Nat) (w : World) (h : Rd w b s pos) (v : Nat) (e : Int) (q : Nat) (hr : rdUk s pos 0 = (v, e, q)) :
    Calls Tryd.prog 64 #[.pointer (some ⟨b, 0, none⟩)] w fun r w' => r = .returned (.tuple #[.int .u64 v, .int .i64 e]) ∧ Rd w' b s q ∧ Only [b] w w' := by
  have := ue_any b s pos w h
  rw [hr] at this
  exact this

/-- What command answers, as a step. -/
structure CmdI (m : Bool) (s : ByteArray) (full : Bool) (q : Nat) (x : Int × Int × Int) (er : Int) (p : Nat) : Prop where
  ok : er = 0 → stepI m s full q = (0, some x, p)
  no : er ≠ 0 → stepI m s full q = (er, none, 0)

/-- A command in memory that may be written. -/
structure MF (w : World) (D : Nat) (x : Int × Int × Int) : Prop where
  c0 : w.cell? ⟨D, 0, none⟩ = some (.int .u8 x.1)
  c1 : w.cell? ⟨D, 1, none⟩ = some (.int .i64 x.2.1)
  c2 : w.cell? ⟨D, 2, none⟩ = some (.int .i64 x.2.2)
  f0 : w.frozen? ⟨D, 0, none⟩ = false
  f1 : w.frozen? ⟨D, 1, none⟩ = false
  f2 : w.frozen? ⟨D, 2, none⟩ = false
theorem MF.lt {w : World} {D : Nat} {x : Int × Int × Int} (h : MF w D x) : D < w.heap.size := World.block_lt_of_cell? _ _ h.c0
theorem MF.only {S : List Nat} {w w' : World} {D : Nat} {x : Int × Int × Int} (h : MF w D x) (k : Only S w w') (hD : D ∉ S) : MF w' D x :=
  ⟨k.cell h.c0 hD, k.cell h.c1 hD, k.cell h.c2 hD, (k.frozen h.lt hD).trans h.f0, (k.frozen h.lt hD).trans h.f1, (k.frozen h.lt hD).trans h.f2⟩
theorem mf_new (w : World) (t : TypeId) (x : Int × Int × Int) : MF (w.alloc (.cells #[.int .u8 x.1, .int .i64 x.2.1, .int .i64 x.2.2] t)) w.heap.size x := ⟨by simp, by simp, by simp, by simp, by simp, by simp⟩
/-- .. and is. -/
theorem MF.set {w : World} {D : Nat} {x : Int × Int × Int} (h : MF w D x) (y : Int × Int × Int) :
    MF (((w.setCell ⟨D, 0, none⟩ (.int .u8 y.1)).setCell ⟨D, 1, none⟩ (.int .i64 y.2.1)).setCell ⟨D, 2, none⟩ (.int .i64 y.2.2)) D y ∧ Only [D] w (((w.setCell ⟨D, 0, none⟩ (.int .u8 y.1)).setCell ⟨D, 1, none⟩ (.int .i64 y.2.1)).setCell ⟨D, 2, none⟩ (.int .i64 y.2.2)) := by
  refine ⟨⟨?_, ?_, ?_, by simp [h.f0], by simp [h.f1], by simp [h.f2]⟩, (((Only.refl _ _).setCell (.inl (by simp)) _).setCell (.inl (by simp)) _).setCell (.inl (by simp)) _⟩
  · rw [World.cell?_setCell_other _ _ _ _ (by simp), World.cell?_setCell_other _ _ _ _ (by simp)]
    exact World.cell?_setCell_same _ _ _ h.c0
  · rw [World.cell?_setCell_other _ _ _ _ (by simp)]
    exact World.cell?_setCell_same _ _ _ (by rw [World.cell?_setCell_other _ _ _ _ (by simp)]; exact h.c1)
  · exact World.cell?_setCell_same _ _ _ (by rw [World.cell?_setCell_other _ _ _ _ (by simp), World.cell?_setCell_other _ _ _ _ (by simp)]; exact h.c2)

/-- Two numbers in memory that may be written. -/
structure AF (w : World) (E : Nat) (a c : Nat) : Prop where
  c0 : w.cell? ⟨E, 0, none⟩ = some (.int .u64 (a : Int))
  c1 : w.cell? ⟨E, 1, none⟩ = some (.int .u64 (c : Int))
  f0 : w.frozen? ⟨E, 0, none⟩ = false
  f1 : w.frozen? ⟨E, 1, none⟩ = false
theorem AF.lt {w : World} {E a c : Nat} (h : AF w E a c) : E < w.heap.size := World.block_lt_of_cell? _ _ h.c0
theorem AF.only {S : List Nat} {w w' : World} {E a c : Nat} (h : AF w E a c) (k : Only S w w') (hE : E ∉ S) : AF w' E a c :=
  ⟨k.cell h.c0 hE, k.cell h.c1 hE, (k.frozen h.lt hE).trans h.f0, (k.frozen h.lt hE).trans h.f1⟩
theorem af_new (w : World) (t : TypeId) : AF (w.alloc (.cells #[.int .u64 0, .int .u64 0] t)) w.heap.size 0 0 := ⟨by simp, by simp, by simp, by simp⟩
theorem AF.set0 {w : World} {E a c : Nat} (h : AF w E a c) (v : Nat) : AF (w.setCell ⟨E, 0, none⟩ (.int .u64 (v : Int))) E v c ∧ Only [E] w (w.setCell ⟨E, 0, none⟩ (.int .u64 (v : Int))) :=
  ⟨⟨World.cell?_setCell_same _ _ _ h.c0, by rw [World.cell?_setCell_other _ _ _ _ (by simp)]; exact h.c1, by simp [h.f0], by simp [h.f1]⟩, (Only.refl _ _).setCell (.inl (by simp)) _⟩
theorem AF.set1 {w : World} {E a c : Nat} (h : AF w E a c) (v : Nat) : AF (w.setCell ⟨E, 1, none⟩ (.int .u64 (v : Int))) E a v ∧ Only [E] w (w.setCell ⟨E, 1, none⟩ (.int .u64 (v : Int))) :=
  ⟨⟨by rw [World.cell?_setCell_other _ _ _ _ (by simp)]; exact h.c0, World.cell?_setCell_same _ _ _ h.c1, by simp [h.f0], by simp [h.f1]⟩, (Only.refl _ _).setCell (.inl (by simp)) _⟩

set_option maxRecDepth 100000 in
set_option maxHeartbeats 8000000 in
theorem command_any (m : Bool) (b : Nat) (s : ByteArray) (q : Nat) (op : Nat) (q1 : Nat) (k : Nat) (w : World) (h : Rd w b s q1) (hop : rdUk s q 0 = (op, 0, q1)) (hne : op ≠ endN m) (hk : k ≤ 66) (hq : q ≤ 8 * s.size) :
    Calls Tryd.prog 65 #[kindV m, .pointer (some ⟨b, 0, none⟩), .int .u64 op, .int .i64 k] w fun e w' => ∃ (y1 y2 y3 er : Int), e = .returned (.tuple #[.agg #[.int .u8 y1, .int .i64 y2, .int .i64 y3], .int .i64 er]) ∧ ∃ p : Nat, Rd w' b s p ∧ Only [b] w w' ∧ CmdI m s (decide (k = 66)) q (y1, y2, y3) er p := by
  have H := hid h
  have hm := (ue_back hq hop).1
  have Q1 := hid h.le
  have S1 : stepI m s (decide (k = 66)) q = if (hasI m op).2 = false then (9, none, 0) else if decide (k = 66) = true then (6, none, 0) else
      if (numR s q1 (decide (0 < (hasI m op).1))).2.1 ≠ 0 then ((numR s q1 (decide (0 < (hasI m op).1))).2.1, none, 0)
      else if (numR s (numR s q1 (decide (0 < (hasI m op).1))).2.2 (decide (1 < (hasI m op).1))).2.1 ≠ 0 then ((numR s (numR s q1 (decide (0 < (hasI m op).1))).2.2 (decide (1 < (hasI m op).1))).2.1, none, 0)
      else (0, some ((op : Int), (numR s q1 (decide (0 < (hasI m op).1))).1, (numR s (numR s q1 (decide (0 < (hasI m op).1))).2.2 (decide (1 < (hasI m op).1))).1), (numR s (numR s q1 (decide (0 < (hasI m op).1))).2.2 (decide (1 < (hasI m op).1))).2.2) := by
    unfold stepI
    rw [hop]
    rw [if_neg (fun x => x rfl), if_neg hne]
  have HN := hasI_n (m := m) (op := op)
  have OL : (hasI m op).2 = true → (op : Int) ≤ 6 := fun e => (hasI_le e).2.1
  have CN := hid (fun w => count_any m op (by omega) w)
  simp only [cntI] at CN
  generalize hasI m op = hh at *
  obtain ⟨nn, is⟩ := hh
  dsimp only at *
  have SS := hid S1
  have k0 : (0 : Int) ≤ (k : Int) := by omega
  have kb : (k : Int) ≤ 66 := by omega
  have b0 : (0 : Int) ≤ (op : Int) := by omega
  have b1 : (op : Int) ≤ 4294967294 := by omega
  clear S1 h hop hne hk
  cases m
  all_goals
    simp only [kindV, kindC] at CN ⊢
    cases is with
    | false =>
      simp only [Bool.false_eq_true, if_false] at CN
      clear OL
      go_enter Tryd.func65, Tryd.ntmps65
      go_wp2_with fail
      refine (CN.out _).mono ?_
      rintro e w1 ⟨rfl, hO⟩
      have F1 := hid ((mf_new (w.alloc _) _ (0, 0, 0)).only hO (by simp))
      have O1 := hid (((((Only.refl [] w).alloc _).alloc _).trans hO).mono (T := [b]) (by simp))
      have R1 := hid (H.out.only ((((Only.refl [] w).alloc _).alloc _).trans hO) (by simp))
      clear hO CN
      rw [World.size_alloc] at F1
      have DB := hid (show w.heap.size + 1 ∉ [b] by have := H.out.lt; simp; omega)
      have ND := hid (Nat.le_add_right w.heap.size 1)
      generalize w.heap.size + 1 = D at *
      obtain ⟨d0, d1, d2, f0, f1, f2⟩ := F1.out
      go_wp2_with fail
      obtain ⟨⟨e0, e1, e2, _, _, _⟩, hO2⟩ := F1.out.set (0, 0, 0)
      refine bodyPost_ret (v := .tuple #[.agg #[.int .u8 0, .int .i64 0, .int .i64 0], .int .i64 9]) (by simp [results, Tryd.results65, go_sem, e0, e1, e2]) rfl ⟨0, 0, 0, 9, rfl, q1, R1.out.only hO2 (by have := DB.out; simp at this ⊢; omega), ?_, ⟨fun e => absurd e (by decide), fun _ => by rw [SS.out]; rfl⟩⟩
      exact O1.out.trans2 hO2 (fun x hx => .inr (by rw [List.mem_singleton.1 hx]; exact ND.out))
    | true =>
      simp only [if_true] at CN
      have b2 := OL rfl
      clear OL
      by_cases hf : k = 66
      · have hf' : (k : Int) = 66 := by omega
        have KF := hid hf
        clear hf
        rcases HN with rfl | rfl | rfl
        all_goals
          go_enter Tryd.func65, Tryd.ntmps65
          go_wp2_with fail
          refine (CN.out _).mono ?_
          rintro e w1 ⟨rfl, hO⟩
          have F1 := hid ((mf_new (w.alloc _) _ (0, 0, 0)).only hO (by simp))
          have O1 := hid (((((Only.refl [] w).alloc _).alloc _).trans hO).mono (T := [b]) (by simp))
          have R1 := hid (H.out.only ((((Only.refl [] w).alloc _).alloc _).trans hO) (by simp))
          clear hO CN
          rw [World.size_alloc] at F1
          have DB := hid (show w.heap.size + 1 ∉ [b] by have := H.out.lt; simp; omega)
          have ND := hid (Nat.le_add_right w.heap.size 1)
          generalize w.heap.size + 1 = D at *
          obtain ⟨d0, d1, d2, f0, f1, f2⟩ := F1.out
          go_wp2_with fail
          obtain ⟨⟨e0, e1, e2, _, _, _⟩, hO2⟩ := F1.out.set (0, 0, 0)
          refine bodyPost_ret (v := .tuple #[.agg #[.int .u8 0, .int .i64 0, .int .i64 0], .int .i64 6]) (by simp [results, Tryd.results65, go_sem, e0, e1, e2]) rfl ⟨0, 0, 0, 6, rfl, q1, R1.out.only hO2 (by have := DB.out; simp at this ⊢; omega), ?_, ⟨fun e => absurd e (by decide), fun _ => by rw [SS.out]; simp [KF.out]⟩⟩
          exact O1.out.trans2 hO2 (fun x hx => .inr (by rw [List.mem_singleton.1 hx]; exact ND.out))
      · have hf' : ¬ (k : Int) = 66 := by omega
        have KF := hid hf
        clear hf
        rcases HN with rfl | rfl | rfl
        · go_enter Tryd.func65, Tryd.ntmps65
          go_wp2_with fail
          refine (CN.out _).mono ?_
          rintro e w1 ⟨rfl, hO⟩
          have F1 := hid ((mf_new (w.alloc _) _ (0, 0, 0)).only hO (by simp))
          have O1 := hid (((((Only.refl [] w).alloc _).alloc _).trans hO).mono (T := [b]) (by simp))
          have R1 := hid (H.out.only ((((Only.refl [] w).alloc _).alloc _).trans hO) (by simp))
          clear hO CN
          rw [World.size_alloc] at F1
          have DB := hid (show w.heap.size + 1 ∉ [b] by have := H.out.lt; simp; omega)
          have ND := hid (Nat.le_add_right w.heap.size 1)
          generalize w.heap.size + 1 = D at *
          go_wp2_with fail
          have A1 := hid (af_new w1 110)
          have OE := (Only.refl [] w1).alloc (Obj.cells #[.int .u64 0, .int .u64 0] 110)
          have DE := hid (show D < w1.heap.size from F1.out.lt)
          have F2 := hid (F1.out.only OE (by simp))
          have O2 := hid (O1.out.trans (OE.mono (T := [b]) (by simp)))
          have R2 := hid (R1.out.only OE (by simp))
          have EB := hid (show w1.heap.size ∉ [b] by have := R1.out.lt; simp; omega)
          have EN := hid (show w.heap.size ≤ w1.heap.size from O1.out.size)
          clear F1 O1 R1 OE
          have F1 := F2
          have O1 := O2
          have R1 := R2
          clear F2 O2 R2
          generalize w1.heap.size = E at *
          simp only [show ((k : Int) == 66) = false by simpa using hf']
          go_loopg [25] 0 (fun g t wr => ∃ (i a c q2 : Nat), i + g = 0 ∧ t = .int .i64 i ∧ Rd wr b s q2 ∧ Only [b] w wr ∧ MF wr D (0, 0, 0) ∧ AF wr E a c ∧ ((i = 0 ∧ a = 0 ∧ c = 0 ∧ q1 = q2)))
          case atStart => exact ⟨0, 0, 0, q1, by omega, rfl, R1.out, O1.out, F1.out, A1.out, ⟨rfl, rfl, rfl, rfl⟩⟩
          case round =>
            clear F1 O1 R1 A1
            obtain ⟨i, a, c, q2, hi, rfl, hR, hO, hF, hA, hs⟩ := hrel
            have R1 := hid hR
            have O1 := hid hO
            have F1 := hid hF
            have A1 := hid hA
            have q2b := hR.le
            obtain ⟨g0, g1, h0, h1⟩ := hA
            clear hR hO hF
            obtain ⟨rfl, rfl, rfl, rfl⟩ := hs
            obtain rfl : gk = 0 := by omega
            clear hi
            obtain ⟨d0, d1, d2, f0, f1, f2⟩ := F1.out
            go_wp2_with fail
            obtain ⟨⟨e0, e1, e2, _, _, _⟩, hO2⟩ := F1.out.set ((op : Int), 0, 0)
            refine bodyPost_ret (v := .tuple #[.agg #[.int .u8 op, .int .i64 0, .int .i64 0], .int .i64 0]) (by simp [results, Tryd.results65, go_sem, e0, e1, e2]) rfl ⟨(op : Int), 0, 0, 0, rfl, q1, R1.out.only hO2 (by have := DB.out; simp at this ⊢; omega), ?_, ⟨fun _ => by rw [SS.out]; simp [KF.out, numR], fun e => absurd rfl e⟩⟩
            exact O1.out.trans2 hO2 (fun x hx => .inr (by rw [List.mem_singleton.1 hx]; exact ND.out))
        · go_enter Tryd.func65, Tryd.ntmps65
          go_wp2_with fail
          refine (CN.out _).mono ?_
          rintro e w1 ⟨rfl, hO⟩
          have F1 := hid ((mf_new (w.alloc _) _ (0, 0, 0)).only hO (by simp))
          have O1 := hid (((((Only.refl [] w).alloc _).alloc _).trans hO).mono (T := [b]) (by simp))
          have R1 := hid (H.out.only ((((Only.refl [] w).alloc _).alloc _).trans hO) (by simp))
          clear hO CN
          rw [World.size_alloc] at F1
          have DB := hid (show w.heap.size + 1 ∉ [b] by have := H.out.lt; simp; omega)
          have ND := hid (Nat.le_add_right w.heap.size 1)
          generalize w.heap.size + 1 = D at *
          go_wp2_with fail
          have A1 := hid (af_new w1 110)
          have OE := (Only.refl [] w1).alloc (Obj.cells #[.int .u64 0, .int .u64 0] 110)
          have DE := hid (show D < w1.heap.size from F1.out.lt)
          have F2 := hid (F1.out.only OE (by simp))
          have O2 := hid (O1.out.trans (OE.mono (T := [b]) (by simp)))
          have R2 := hid (R1.out.only OE (by simp))
          have EB := hid (show w1.heap.size ∉ [b] by have := R1.out.lt; simp; omega)
          have EN := hid (show w.heap.size ≤ w1.heap.size from O1.out.size)
          clear F1 O1 R1 OE
          have F1 := F2
          have O1 := O2
          have R1 := R2
          clear F2 O2 R2
          generalize w1.heap.size = E at *
          simp only [show ((k : Int) == 66) = false by simpa using hf']
          go_loopg [25] 1 (fun g t wr => ∃ (i a c q2 : Nat), i + g = 1 ∧ t = .int .i64 i ∧ Rd wr b s q2 ∧ Only [b] w wr ∧ MF wr D (0, 0, 0) ∧ AF wr E a c ∧ ((i = 0 ∧ a = 0 ∧ c = 0 ∧ q1 = q2) ∨ (i = 1 ∧ rdUk s q1 0 = (a, 0, q2) ∧ c = 0)))
          case atStart => exact ⟨0, 0, 0, q1, by omega, rfl, R1.out, O1.out, F1.out, A1.out, .inl ⟨rfl, rfl, rfl, rfl⟩⟩
          case round =>
            clear F1 O1 R1 A1
            obtain ⟨i, a, c, q2, hi, rfl, hR, hO, hF, hA, hs⟩ := hrel
            have R1 := hid hR
            have O1 := hid hO
            have F1 := hid hF
            have A1 := hid hA
            have q2b := hR.le
            obtain ⟨g0, g1, h0, h1⟩ := hA
            clear hR hO hF
            rcases hs with ⟨rfl, rfl, rfl, rfl⟩ | ⟨rfl, hs1, rfl⟩
            · obtain rfl : gk = 1 := by omega
              clear hi
              obtain ⟨v, ev, q3, hv⟩ : ∃ v ev q3, rdUk s q1 0 = (v, ev, q3) := ⟨_, _, _, rfl⟩
              have V := hid hv
              have UC := hid (ue_three b s q1 _ R1.out v ev q3 hv)
              clear hv
              go_wp2_with fail
              refine UC.out.mono ?_
              rintro e w5 ⟨rfl, hR5, hO5⟩
              have F5 := hid (F1.out.only hO5 DB.out)
              have A5 := hid (A1.out.only hO5 EB.out)
              have O5 := hid (O1.out.trans hO5)
              have R5 := hid hR5
              clear hR5 hO5 UC g0 g1 h0 h1 F1 A1 O1 R1
              have F1 := F5
              have O1 := O5
              have R1 := R5
              clear F5 O5 R5
              obtain ⟨d0, d1, d2, f0, f1, f2⟩ := F1.out
              obtain ⟨g0, g1, h0, h1⟩ := A5.out
              have ec := hid (V.out)
              by_cases he : ev = 0
              · subst he
                have A6 := A5.out.set0 v
                have A7 := hid A6.1
                have F7 := hid (F1.out.only A6.2 (by have := DE.out; simp; omega))
                have R7 := hid (R1.out.only A6.2 (by have := EB.out; simp at this ⊢; omega))
                have O7 := hid (O1.out.trans2 A6.2 (fun x hx => .inr (by rw [List.mem_singleton.1 hx]; exact EN.out)))
                clear A6
                go_wp2_with fail
                go_roundg 0
                case measure => omega
                case rel => exact ⟨1, v, 0, q3, by omega, rfl, R7.out, O7.out, F7.out, A7.out, .inr ⟨rfl, V.out, rfl⟩⟩
              · have E0 := hid he
                go_wp2_with fail
                obtain ⟨⟨e0, e1, e2, _, _, _⟩, hO2⟩ := F1.out.set (0, 0, 0)
                refine bodyPost_ret (v := .tuple #[.agg #[.int .u8 0, .int .i64 0, .int .i64 0], .int .i64 ev]) (by simp [results, Tryd.results65, go_sem, e0, e1, e2]) rfl ⟨0, 0, 0, ev, rfl, q3, R1.out.only hO2 (by have := DB.out; simp at this ⊢; omega), ?_, ⟨fun e => absurd e E0.out, fun _ => by rw [SS.out]; simp [KF.out, numR, V.out, E0.out]⟩⟩
                exact O1.out.trans2 hO2 (fun x hx => .inr (by rw [List.mem_singleton.1 hx]; exact ND.out))
            · obtain rfl : gk = 0 := by omega
              clear hi
              have S1 := hid hs1
              have ab := (ue_back Q1.out hs1).1
              have a0 : (0 : Int) ≤ (a : Int) := by omega
              have a1 : (a : Int) ≤ 4294967294 := by omega
              clear hs1 ab
              obtain ⟨d0, d1, d2, f0, f1, f2⟩ := F1.out
              go_wp2_with fail
              obtain ⟨⟨e0, e1, e2, _, _, _⟩, hO2⟩ := F1.out.set ((op : Int), (a : Int), 0)
              refine bodyPost_ret (v := .tuple #[.agg #[.int .u8 op, .int .i64 (a : Int), .int .i64 0], .int .i64 0]) (by simp [results, Tryd.results65, go_sem, e0, e1, e2]) rfl ⟨(op : Int), (a : Int), 0, 0, rfl, q2, R1.out.only hO2 (by have := DB.out; simp at this ⊢; omega), ?_, ⟨fun _ => by rw [SS.out]; simp [KF.out, numR, S1.out], fun e => absurd rfl e⟩⟩
              exact O1.out.trans2 hO2 (fun x hx => .inr (by rw [List.mem_singleton.1 hx]; exact ND.out))
        · go_enter Tryd.func65, Tryd.ntmps65
          go_wp2_with fail
          refine (CN.out _).mono ?_
          rintro e w1 ⟨rfl, hO⟩
          have F1 := hid ((mf_new (w.alloc _) _ (0, 0, 0)).only hO (by simp))
          have O1 := hid (((((Only.refl [] w).alloc _).alloc _).trans hO).mono (T := [b]) (by simp))
          have R1 := hid (H.out.only ((((Only.refl [] w).alloc _).alloc _).trans hO) (by simp))
          clear hO CN
          rw [World.size_alloc] at F1
          have DB := hid (show w.heap.size + 1 ∉ [b] by have := H.out.lt; simp; omega)
          have ND := hid (Nat.le_add_right w.heap.size 1)
          generalize w.heap.size + 1 = D at *
          go_wp2_with fail
          have A1 := hid (af_new w1 110)
          have OE := (Only.refl [] w1).alloc (Obj.cells #[.int .u64 0, .int .u64 0] 110)
          have DE := hid (show D < w1.heap.size from F1.out.lt)
          have F2 := hid (F1.out.only OE (by simp))
          have O2 := hid (O1.out.trans (OE.mono (T := [b]) (by simp)))
          have R2 := hid (R1.out.only OE (by simp))
          have EB := hid (show w1.heap.size ∉ [b] by have := R1.out.lt; simp; omega)
          have EN := hid (show w.heap.size ≤ w1.heap.size from O1.out.size)
          clear F1 O1 R1 OE
          have F1 := F2
          have O1 := O2
          have R1 := R2
          clear F2 O2 R2
          generalize w1.heap.size = E at *
          simp only [show ((k : Int) == 66) = false by simpa using hf']
          go_loopg [25] 2 (fun g t wr => ∃ (i a c q2 : Nat), i + g = 2 ∧ t = .int .i64 i ∧ Rd wr b s q2 ∧ Only [b] w wr ∧ MF wr D (0, 0, 0) ∧ AF wr E a c ∧ ((i = 0 ∧ a = 0 ∧ c = 0 ∧ q1 = q2) ∨ (i = 1 ∧ rdUk s q1 0 = (a, 0, q2) ∧ c = 0) ∨ (i = 2 ∧ ∃ qa, rdUk s q1 0 = (a, 0, qa) ∧ rdUk s qa 0 = (c, 0, q2))))
          case atStart => exact ⟨0, 0, 0, q1, by omega, rfl, R1.out, O1.out, F1.out, A1.out, .inl ⟨rfl, rfl, rfl, rfl⟩⟩
          case round =>
            clear F1 O1 R1 A1
            obtain ⟨i, a, c, q2, hi, rfl, hR, hO, hF, hA, hs⟩ := hrel
            have R1 := hid hR
            have O1 := hid hO
            have F1 := hid hF
            have A1 := hid hA
            have q2b := hR.le
            obtain ⟨g0, g1, h0, h1⟩ := hA
            clear hR hO hF
            rcases hs with ⟨rfl, rfl, rfl, rfl⟩ | ⟨rfl, hs1, rfl⟩ | ⟨rfl, qa, hs1, hs2⟩
            · obtain rfl : gk = 2 := by omega
              clear hi
              obtain ⟨v, ev, q3, hv⟩ : ∃ v ev q3, rdUk s q1 0 = (v, ev, q3) := ⟨_, _, _, rfl⟩
              have V := hid hv
              have UC := hid (ue_three b s q1 _ R1.out v ev q3 hv)
              clear hv
              go_wp2_with fail
              refine UC.out.mono ?_
              rintro e w5 ⟨rfl, hR5, hO5⟩
              have F5 := hid (F1.out.only hO5 DB.out)
              have A5 := hid (A1.out.only hO5 EB.out)
              have O5 := hid (O1.out.trans hO5)
              have R5 := hid hR5
              clear hR5 hO5 UC g0 g1 h0 h1 F1 A1 O1 R1
              have F1 := F5
              have O1 := O5
              have R1 := R5
              clear F5 O5 R5
              obtain ⟨d0, d1, d2, f0, f1, f2⟩ := F1.out
              obtain ⟨g0, g1, h0, h1⟩ := A5.out
              have ec := hid (V.out)
              by_cases he : ev = 0
              · subst he
                have A6 := A5.out.set0 v
                have A7 := hid A6.1
                have F7 := hid (F1.out.only A6.2 (by have := DE.out; simp; omega))
                have R7 := hid (R1.out.only A6.2 (by have := EB.out; simp at this ⊢; omega))
                have O7 := hid (O1.out.trans2 A6.2 (fun x hx => .inr (by rw [List.mem_singleton.1 hx]; exact EN.out)))
                clear A6
                go_wp2_with fail
                go_roundg 1
                case measure => omega
                case rel => exact ⟨1, v, 0, q3, by omega, rfl, R7.out, O7.out, F7.out, A7.out, .inr (.inl ⟨rfl, V.out, rfl⟩)⟩
              · have E0 := hid he
                go_wp2_with fail
                obtain ⟨⟨e0, e1, e2, _, _, _⟩, hO2⟩ := F1.out.set (0, 0, 0)
                refine bodyPost_ret (v := .tuple #[.agg #[.int .u8 0, .int .i64 0, .int .i64 0], .int .i64 ev]) (by simp [results, Tryd.results65, go_sem, e0, e1, e2]) rfl ⟨0, 0, 0, ev, rfl, q3, R1.out.only hO2 (by have := DB.out; simp at this ⊢; omega), ?_, ⟨fun e => absurd e E0.out, fun _ => by rw [SS.out]; simp [KF.out, numR, V.out, E0.out]⟩⟩
                exact O1.out.trans2 hO2 (fun x hx => .inr (by rw [List.mem_singleton.1 hx]; exact ND.out))
            · obtain rfl : gk = 1 := by omega
              clear hi
              have S1 := hid hs1
              clear hs1
              obtain ⟨v, ev, q3, hv⟩ : ∃ v ev q3, rdUk s q2 0 = (v, ev, q3) := ⟨_, _, _, rfl⟩
              have V := hid hv
              have UC := hid (ue_three b s q2 _ R1.out v ev q3 hv)
              clear hv
              go_wp2_with fail
              refine UC.out.mono ?_
              rintro e w5 ⟨rfl, hR5, hO5⟩
              have F5 := hid (F1.out.only hO5 DB.out)
              have A5 := hid (A1.out.only hO5 EB.out)
              have O5 := hid (O1.out.trans hO5)
              have R5 := hid hR5
              clear hR5 hO5 UC g0 g1 h0 h1 F1 A1 O1 R1
              have F1 := F5
              have O1 := O5
              have R1 := R5
              clear F5 O5 R5
              obtain ⟨d0, d1, d2, f0, f1, f2⟩ := F1.out
              obtain ⟨g0, g1, h0, h1⟩ := A5.out
              have ec := hid (V.out)
              by_cases he : ev = 0
              · subst he
                have A6 := A5.out.set1 v
                have A7 := hid A6.1
                have F7 := hid (F1.out.only A6.2 (by have := DE.out; simp; omega))
                have R7 := hid (R1.out.only A6.2 (by have := EB.out; simp at this ⊢; omega))
                have O7 := hid (O1.out.trans2 A6.2 (fun x hx => .inr (by rw [List.mem_singleton.1 hx]; exact EN.out)))
                clear A6
                go_wp2_with fail
                go_roundg 0
                case measure => omega
                case rel => exact ⟨2, a, v, q3, by omega, rfl, R7.out, O7.out, F7.out, A7.out, .inr (.inr ⟨rfl, q2, S1.out, V.out⟩)⟩
              · have E0 := hid he
                go_wp2_with fail
                obtain ⟨⟨e0, e1, e2, _, _, _⟩, hO2⟩ := F1.out.set (0, 0, 0)
                refine bodyPost_ret (v := .tuple #[.agg #[.int .u8 0, .int .i64 0, .int .i64 0], .int .i64 ev]) (by simp [results, Tryd.results65, go_sem, e0, e1, e2]) rfl ⟨0, 0, 0, ev, rfl, q3, R1.out.only hO2 (by have := DB.out; simp at this ⊢; omega), ?_, ⟨fun e => absurd e E0.out, fun _ => by rw [SS.out]; simp [KF.out, numR, S1.out, V.out, E0.out]⟩⟩
                exact O1.out.trans2 hO2 (fun x hx => .inr (by rw [List.mem_singleton.1 hx]; exact ND.out))
            · obtain rfl : gk = 0 := by omega
              clear hi
              have S1 := hid hs1
              have ab := (ue_back Q1.out hs1).1
              have a0 : (0 : Int) ≤ (a : Int) := by omega
              have a1 : (a : Int) ≤ 4294967294 := by omega
              clear hs1 ab
              have S2 := hid hs2
              have cb := (ue_back (by have := (ue_back Q1.out S1.out); have := this.2.1.1; omega) hs2).1
              have c0 : (0 : Int) ≤ (c : Int) := by omega
              have c1 : (c : Int) ≤ 4294967294 := by omega
              clear hs2 cb
              obtain ⟨d0, d1, d2, f0, f1, f2⟩ := F1.out
              go_wp2_with fail
              obtain ⟨⟨e0, e1, e2, _, _, _⟩, hO2⟩ := F1.out.set ((op : Int), (a : Int), (c : Int))
              refine bodyPost_ret (v := .tuple #[.agg #[.int .u8 op, .int .i64 (a : Int), .int .i64 (c : Int)], .int .i64 0]) (by simp [results, Tryd.results65, go_sem, e0, e1, e2]) rfl ⟨(op : Int), (a : Int), (c : Int), 0, rfl, q2, R1.out.only hO2 (by have := DB.out; simp at this ⊢; omega), ?_, ⟨fun _ => by rw [SS.out]; simp [KF.out, numR, S1.out, S2.out], fun e => absurd rfl e⟩⟩
              exact O1.out.trans2 hO2 (fun x hx => .inr (by rw [List.mem_singleton.1 hx]; exact ND.out))
end Go.Proofs.YtdkmeldcpamnnaaDoor

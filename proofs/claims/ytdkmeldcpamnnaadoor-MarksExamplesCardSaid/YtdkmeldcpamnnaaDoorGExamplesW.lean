/- MarksExamples: the walk. -/
import Derived.Test.YtdkmeldcpamnnaaDoorGChecksW
import Derived.Test.YtdkmeldcpamnnaaDoorGReadsW
import Derived.Deep.RegionHeld3
import Derived.Deep.DeepCutAuto
import Derived.Deep.LoopGhost
import Derived.Test.YtdkmeldcpamnnaaDoorGRefusesW
import Derived.OwnWalk
import Derived.Laws.MakeOwn
import Derived.Laws.IdiomStrings
namespace Go.Proofs.YtdkmeldcpamnnaaDoor
open Go.RowKit
set_option linter.unusedVariables false

def en (j : Nat) : Int := [-9223372036854775808, -1, 0, 1, 7, 4294967294, 4294967295, 9223372036854775807].getD j 0
theorem en_le (j : Nat) : -9223372036854775808 ≤ en j ∧ en j ≤ 9223372036854775807 := by
  by_cases h : j < 8
  · obtain rfl | rfl | rfl | rfl | rfl | rfl | rfl | rfl : j = 0 ∨ j = 1 ∨ j = 2 ∨ j = 3 ∨ j = 4 ∨ j = 5 ∨ j = 6 ∨ j = 7 := by omega
    all_goals decide
  · unfold en
    rw [List.getD_eq_getElem?_getD, List.getElem?_eq_none (by simp; omega)]
    decide
def oEn (t : TypeId) : Obj := .cells #[.int .i64 (-9223372036854775808), .int .i64 (-1), .int .i64 0, .int .i64 1, .int .i64 7, .int .i64 4294967294, .int .i64 4294967295, .int .i64 9223372036854775807] t
def EndsAt (w : World) (p : Nat) : Prop := ∀ j, j < 8 → w.cell? ⟨p, j, none⟩ = some (.int .i64 (en j))
theorem ends_new (w : World) (t : TypeId) : EndsAt (w.alloc (oEn t)) w.heap.size := fun j hj => by
  obtain rfl | rfl | rfl | rfl | rfl | rfl | rfl | rfl : j = 0 ∨ j = 1 ∨ j = 2 ∨ j = 3 ∨ j = 4 ∨ j = 5 ∨ j = 6 ∨ j = 7 := by omega
  all_goals simp [en, oEn]
theorem EndsAt.only {w w' : World} {p : Nat} (h : EndsAt w p) (k : Only [] w w') : EndsAt w' p := fun j hj => k.cell (h j hj) (by simp)
theorem mcheck_lit (l : List (Int × Int × Int)) (before : Int) (W : World) (hV : Vars W) (hl : l.length ≤ 100) (hk : OksM l) (b0 : -9223372036854775808 ≤ before) (b1 : before ≤ 9223372036854775807) (n : Nat) (hn : n = l.length) (b : Nat) (hb : b = W.heap.size) (cs : Array Value) (hcs : cs = (cellsM l).toArray) :
    Calls Tryd.prog 3 #[.slice (some ⟨b, 0, none⟩) n n, .int .i64 before] (W.alloc (.cells cs 50)) fun e w' => e = .returned (.bool true) ∧ Only [] W w' := by
  subst hn hb hcs
  exact (mchecks_any _ l before _ (hV.only0 ((Only.refl [] W).alloc _)) (holdsM_lit W l (by unfold maxLen; omega)) hk b0 b1).mono fun e w' ⟨he, ho⟩ => ⟨he, ((Only.refl [] W).alloc _).trans ho⟩

theorem oks_one {x : Int × Int × Int} (h : OkM x) : OksM [x] := fun j y hy => by
  rw [List.mem_singleton.1 (List.mem_of_getElem? hy)]
  exact h
theorem oks_cons {x : Int × Int × Int} {l : List (Int × Int × Int)} (h : OkM x) (hl : OksM l) : OksM (x :: l) := fun j y hy => by
  cases j with
  | zero => simp at hy; exact hy ▸ h
  | succ j => exact hl j y (by simpa using hy)

/-- The list of sixty-seven commands, the first j of them written. -/
def manyC (j k : Nat) : Int × Int × Int := if k < j then (1, (k : Int) % 3, 0) else (0, 0, 0)
def manyL : List (Int × Int × Int) := (List.range 67).map (manyC 67)
theorem manyL_len : manyL.length = 67 := by simp [manyL]
theorem manyC_ok (j k : Nat) : OkM (manyC j k) := by
  unfold manyC
  split
  · exact ⟨by simp, ⟨by dsimp only; omega, by dsimp only; omega⟩, by simp⟩
  · exact ⟨by simp, by simp, by simp⟩
theorem manyL_ok : OksM manyL := fun i x hx => by
  obtain ⟨k, _, rfl⟩ := List.mem_map.1 (List.mem_of_getElem? hx)
  exact manyC_ok _ _
structure ManyAt (w : World) (b j : Nat) : Prop where
  cells : ∀ k, k < 67 → MAt w b (k * 3) (manyC j k)
  free : ∀ k, w.frozen? ⟨b, k, none⟩ = false
theorem ManyAt.step {w : World} {b j : Nat} (h : ManyAt w b j) (hj : j < 67) :
    ManyAt (((w.setCell ⟨b, j * 3, none⟩ (.int .u8 1)).setCell ⟨b, j * 3 + 1, none⟩ (.int .i64 ((j : Int) % 3))).setCell ⟨b, j * 3 + 2, none⟩ (.int .i64 0)) b (j + 1) := by
  refine ⟨fun k hk => ?_, fun k => by rw [World.frozen?_setCell, World.frozen?_setCell, World.frozen?_setCell]; exact h.free k⟩
  obtain ⟨a0, a1, a2⟩ := h.cells k hk
  by_cases e : k = j
  · subst e
    unfold manyC
    rw [if_pos (by omega)]
    exact ⟨by go_simp, by go_simp, by go_simp⟩
  · have m : manyC (j + 1) k = manyC j k := by
      unfold manyC
      by_cases c : k < j
      · rw [if_pos c, if_pos (by omega)]
      · rw [if_neg c, if_neg (by omega)]
    rw [m]
    refine ⟨?_, ?_, ?_⟩
    · rw [World.cell?_setCell_other _ _ _ _ (by simp <;> omega), World.cell?_setCell_other _ _ _ _ (by simp <;> omega), World.cell?_setCell_other _ _ _ _ (by simp <;> omega)]; exact a0
    · rw [World.cell?_setCell_other _ _ _ _ (by simp <;> omega), World.cell?_setCell_other _ _ _ _ (by simp <;> omega), World.cell?_setCell_other _ _ _ _ (by simp <;> omega)]; exact a1
    · rw [World.cell?_setCell_other _ _ _ _ (by simp <;> omega), World.cell?_setCell_other _ _ _ _ (by simp <;> omega), World.cell?_setCell_other _ _ _ _ (by simp <;> omega)]; exact a2
theorem make_many (W : World) : ∃ w1, (Instr.makeSlice 22 (.int .i64 67) (.int .i64 67)).run Tryd.prog W = .ok (.slice (some ⟨W.heap.size, 0, none⟩) 67 67) w1 ∧ ManyAt w1 W.heap.size 0 ∧ Only [] W w1 := by
  obtain ⟨i0, hi0, hz0, hs0, hb0⟩ := info_parts info_mod
  have hr := run_make (P := Tryd.prog) W 22 50 i0 _ und_mods hi0 hz0 .i64 .i64 (67 : Int) (67 : Int) (by omega) (Int.le_refl _) (by rw [hb0]; omega) (by omega)
  rw [hs0] at hr
  refine ⟨_, hr, ⟨fun j hj => ?_, fun k => World.frozen?_alloc_new _ _ _ _⟩, (Only.refl [] W).alloc _⟩
  unfold manyC
  rw [if_neg (by omega)]
  refine ⟨?_, ?_, ?_⟩
  all_goals
    rw [World.cell?_alloc_new, Array.getElem?_eq_getElem (by rw [size_madeCells]; simp; omega)]
    simp [madeCells, Value.cells, show (j * 3 + 1) % 3 = 1 by omega, show (j * 3 + 2) % 3 = 2 by omega]
theorem ManyAt.holds {w : World} {b : Nat} (h : ManyAt w b 67) : HoldsM w (.slice (some ⟨b, 0, none⟩) 67 67) manyL :=
  ⟨_, 67, by rw [manyL_len], by rw [manyL_len]; omega, by unfold maxLen; omega, .inr ⟨b, 0, rfl, fun j x hx => by
    unfold manyL at hx
    rw [List.getElem?_map] at hx
    by_cases hj : j < 67
    · rw [List.getElem?_range hj] at hx
      cases hx
      rw [Nat.zero_add]
      exact h.cells j hj
    · rw [List.getElem?_eq_none (by simp; omega)] at hx
      cases hx⟩⟩
theorem ManyAt.part {w : World} {b : Nat} (h : ManyAt w b 67) : HoldsM w (.slice (some ⟨b, 3, none⟩) 66 66) (manyL.drop 1) :=
  ⟨_, 66, by rw [List.length_drop, manyL_len], by rw [List.length_drop, manyL_len]; omega, by unfold maxLen; omega, .inr ⟨b, 3, rfl, fun j x hx => by
    rw [List.getElem?_drop] at hx
    unfold manyL at hx
    rw [List.getElem?_map] at hx
    by_cases hj : 1 + j < 67
    · rw [List.getElem?_range hj] at hx
      cases hx
      have := h.cells (1 + j) hj
      rwa [show (1 + j) * 3 = 3 + j * 3 by omega] at this
    · rw [List.getElem?_eq_none (by simp; omega)] at hx
      cases hx⟩⟩
theorem manyD_ok : OksM (manyL.drop 1) := fun i x hx => by
  rw [List.getElem?_drop] at hx
  exact manyL_ok _ x hx
theorem ManyAt.only {w w' : World} {b j : Nat} (h : ManyAt w b j) (k : Only [] w w') (hl : ∀ i, w'.frozen? ⟨b, i, none⟩ = false) : ManyAt w' b j := ⟨fun i hi => (h.cells i hi).only k (by simp), hl⟩
/-- A hundred bytes, the first j of them 255. -/
structure OnesAt (w : World) (b j : Nat) : Prop where
  cells : ∀ k, k < 100 → w.cell? ⟨b, k, none⟩ = some (.int .u8 (if k < j then 255 else 0))
  free : ∀ k, w.frozen? ⟨b, k, none⟩ = false
theorem OnesAt.step {w : World} {b j : Nat} (h : OnesAt w b j) (hj : j < 100) : OnesAt (w.setCell ⟨b, j, none⟩ (.int .u8 255)) b (j + 1) := by
  refine ⟨fun k hk => ?_, fun k => by rw [World.frozen?_setCell]; exact h.free k⟩
  have a0 := h.cells k hk
  by_cases e : k = j
  · subst e
    rw [World.cell?_setCell_same _ _ _ a0, if_pos (by omega)]
  · rw [World.cell?_setCell_other _ _ _ _ (by simp <;> omega), a0]
    by_cases c : k < j
    · rw [if_pos c, if_pos (by omega)]
    · rw [if_neg c, if_neg (by omega)]
theorem make_ones (W : World) : ∃ w1, (Instr.makeSlice 51 (.int .i64 100) (.int .i64 100)).run Tryd.prog W = .ok (.slice (some ⟨W.heap.size, 0, none⟩) 100 100) w1 ∧ OnesAt w1 W.heap.size 0 ∧ Only [] W w1 := by
  obtain ⟨i0, hi0, hz0, hs0, hb0⟩ := info_parts info_u8
  have hr := run_make (P := Tryd.prog) W 51 5 i0 _ und_bytes hi0 hz0 .i64 .i64 (100 : Int) (100 : Int) (by omega) (Int.le_refl _) (by rw [hb0]; omega) (by omega)
  rw [hs0] at hr
  refine ⟨_, hr, ⟨fun j hj => ?_, fun k => World.frozen?_alloc_new _ _ _ _⟩, (Only.refl [] W).alloc _⟩
  rw [World.cell?_alloc_new, Array.getElem?_eq_getElem (by rw [size_madeCells]; simp; omega)]
  simp [madeCells, Value.cells, Nat.mod_one]
def BytesAt (w : World) (b : Nat) (l : List UInt8) : Prop := ∀ j (hj : j < l.length), w.cell? ⟨b, j, none⟩ = some (.int .u8 (l[j].toNat : Int))
theorem BytesAt.only {w w' : World} {b : Nat} {l : List UInt8} (h : BytesAt w b l) (k : Only [] w w') : BytesAt w' b l := fun j hj => k.cell (h j hj) (by simp)
theorem OnesAt.bytes {w : World} {b : Nat} (h : OnesAt w b 100) (n : Nat) (hn : n ≤ 100) : BytesAt w b (List.replicate n 255) := fun j hj => by
  rw [List.length_replicate] at hj
  rw [h.cells j (by omega), if_pos (by omega), List.getElem_replicate]
  rfl
theorem conv_bytes {w : World} {b : Nat} {l : List UInt8} (h : BytesAt w b l) (n cap : Nat) (hn : n = l.length) : (convert 51 9 (.slice (some ⟨b, 0, none⟩) n cap)).run Tryd.prog w = .ok (.string ⟨l.toArray⟩) w := by
  subst hn
  have add : ∀ k : Nat, (⟨b, 0, none⟩ : Addr).add k = ⟨b, k, none⟩ := fun k => by cases k <;> simp [Addr.add]
  exact run_convert_bytes_back (P := Tryd.prog) w 51 9 5 ⟨b, 0, none⟩ cap l und_bytes und_u8 und_str (fun j hj => by rw [add]; exact h j hj)

set_option maxRecDepth 200000 in
set_option maxHeartbeats 8000000 in
theorem mexamples_any (W : World) (hV : Vars W) : Calls Tryd.prog 5 #[] W fun e w' => e = .returned (.bool true) ∧ Only [] W w' := by
  have HV := hid hV
  clear hV
  have AW := hid (awake_any)
  go_enter Tryd.func5, Tryd.ntmps5
  go_wp2_with fail
  have E0 := ends_new W 3
  have O0 := (Only.refl [] W).alloc (oEn 3)
  unfold oEn at E0 O0
  generalize World.alloc _ _ = wx at E0 O0 ⊢
  generalize W.heap.size = p at *
  have E0 := hid E0
  have O0 := hid O0
  go_loopg [2] 9 (fun g t wr => ∃ i : Nat, i + g = 9 ∧ t = .int .i64 i ∧ EndsAt wr p ∧ Only [] W wr)
  case atStart => exact ⟨0, by omega, rfl, E0.out, O0.out⟩
  case round =>
    obtain ⟨i, hi, rfl, hE, hO⟩ := hrel
    have E := hid hE
    have O := hid hO
    clear hE hO E0 O0
    have i0 : (0 : Int) ≤ (i : Int) := by omega
    by_cases hg : gk = 0
    · obtain rfl : i = 9 := by omega
      clear hi hg
      obtain ⟨w1, hrun, hM1, hO1⟩ := make_many wr
      obtain ⟨b, hb⟩ : ∃ b, b = wr.heap.size := ⟨_, rfl⟩
      rw [← hb] at hrun hM1
      have bW := hid (show W.heap.size ≤ b by rw [hb]; exact O.out.size)
      have M1 := hid hM1
      have O1 := hid (O.out.trans hO1)
      clear hM1 hO1 hb E O
      go_wp2_with (at_make; refine make_step _ rfl _ _ _ rfl _ _ rfl rfl _ _ hrun ?_)
      clear hrun
      go_loopg [6] 67 (fun g t wr => ∃ j : Nat, j + g = 67 ∧ t = .int .i64 j ∧ ManyAt wr b j ∧ Only [] W wr)
      case atStart => exact ⟨0, by omega, rfl, M1.out, O1.out⟩
      case round =>
        obtain ⟨j, hj, rfl, hM, hO⟩ := hrel
        have M := hid hM
        have O := hid hO
        clear hM hO M1 O1
        have j0 : (0 : Int) ≤ (j : Int) := by omega
        by_cases hg : gk = 0
        · obtain rfl : j = 67 := by omega
          clear hj hg
          go_wp2_with fail
          refine (mchecks_any _ manyL 1 _ (HV.out.only0 O.out) M.out.holds manyL_ok (by omega) (by omega)).mono ?_
          rintro e w2 ⟨rfl, hO⟩
          have P2 := hid (M.out.part.only0 hO)
          have O2 := hid (O.out.trans hO)
          clear hO M O
          go_wp2_with fail
          refine (mchecks_any _ (manyL.drop 1) 2 _ (HV.out.only0 O2.out) P2.out manyD_ok (by omega) (by omega)).mono ?_
          rintro e w3 ⟨rfl, hO⟩
          have O3 := hid (O2.out.trans hO)
          clear hO P2 O2
          obtain ⟨w4, hrun, hN4, hO4⟩ := make_ones w3
          obtain ⟨c, hc⟩ : ∃ c, c = w3.heap.size := ⟨_, rfl⟩
          rw [← hc] at hrun hN4
          have cW := hid (show W.heap.size ≤ c by rw [hc]; exact O3.out.size)
          have N4 := hid hN4
          have O4 := hid (O3.out.trans hO4)
          clear hN4 hO4 hc O3
          go_wp2_with (at_make; refine make_step _ rfl _ _ _ rfl _ _ rfl rfl _ _ hrun ?_)
          clear hrun
          go_loopg [8] 100 (fun g t wr => ∃ j : Nat, j + g = 100 ∧ t = .int .i64 j ∧ OnesAt wr c j ∧ Only [] W wr)
          case atStart => exact ⟨0, by omega, rfl, N4.out, O4.out⟩
          case round =>
            obtain ⟨j, hj, rfl, hN, hO⟩ := hrel
            have N := hid hN
            have O := hid hO
            clear hN hO N4 O4
            have j0 : (0 : Int) ≤ (j : Int) := by omega
            by_cases hg : gk = 0
            · obtain rfl : j = 100 := by omega
              clear hj hg
              have B0 := hid (N.out.bytes 100 (by omega))
              clear N
              go_wp2_with fail
              go_loopg [9] 20 (fun g t wr => ∃ j : Nat, j + g = 20 ∧ t = .int .i64 j ∧ BytesAt wr c (List.replicate 100 255) ∧ Only [] W wr)
              case atStart => exact ⟨0, by omega, rfl, B0.out, O.out⟩
              case round =>
                obtain ⟨j, hj, rfl, hB, hO⟩ := hrel
                have B := hid hB
                have O := hid hO
                clear hB hO B0
                have j0 : (0 : Int) ≤ (j : Int) := by omega
                by_cases hg : gk = 0
                · obtain rfl : j = 20 := by omega
                  clear hj hg
                  go_wp2_with fail
                  refine (mods_nil _ (HV.out.only0 O.out)).mono ?_
                  rintro e w2 ⟨⟨s2, rfl⟩, hO⟩
                  have O2 := hid (O.out.trans hO)
                  clear hO O
                  go_wp2_with fail
                  refine (marks_nil _ (HV.out.only0 O2.out)).mono ?_
                  rintro e w3 ⟨⟨s3, rfl⟩, hO⟩
                  have O3 := hid (O2.out.trans hO)
                  clear hO O2
                  go_wp2_with fail
                  refine (putmods_nil _ (HV.out.only0 O3.out)).mono ?_
                  rintro e w4 ⟨rfl, hO⟩
                  have O4 := hid (O3.out.trans hO)
                  clear hO O3
                  go_wp2_with fail
                  refine (putmarks_nil _ (HV.out.only0 O4.out)).mono ?_
                  rintro e w5 ⟨rfl, hO⟩
                  have O5 := hid (O4.out.trans hO)
                  clear hO O4
                  go_wp2_with fail
                  refine (AW.out _ (HV.out.only0 O5.out)).mono ?_
                  rintro e w6 ⟨rfl, hO⟩
                  go_wp2_with fail
                  go_ret
                  exact ⟨rfl, O5.out.trans hO⟩
                · have g1 : (j : Int) < 20 := by omega
                  obtain ⟨g, rfl⟩ : ∃ g, gk = g + 1 := ⟨gk - 1, by omega⟩
                  have JG := hid (show j + 1 + g = 20 by omega)
                  obtain ⟨u, hu⟩ : ∃ u : ByteArray, u = ⟨(List.replicate 100 255).toArray⟩ := ⟨_, rfl⟩
                  obtain ⟨v, hv⟩ : ∃ v : ByteArray, v = ⟨(List.replicate 40 255).toArray⟩ := ⟨_, rfl⟩
                  have us := hid (show u.size ≤ maxLen by rw [hu]; decide +kernel)
                  have vs := hid (show v.size ≤ maxLen by rw [hv]; decide +kernel)
                  have CV := hid (fun w (h : BytesAt w c (List.replicate 40 255)) => conv_bytes h 40 100 (by rw [List.length_replicate]))
                  rw [← hv] at CV
                  have cv := conv_bytes B.out 100 100 (by rw [List.length_replicate])
                  rw [← hu] at cv
                  have P := hid (show BytesAt wr c (List.replicate 40 255) from fun k hk => by
                    rw [List.length_replicate] at hk
                    have := B.out k (by rw [List.length_replicate]; omega)
                    rw [List.getElem_replicate] at this ⊢
                    exact this)
                  have q : (19 * (j : Int)).tdiv 2 = 19 * (j : Int) / 2 := Int.tdiv_eq_ediv_of_nonneg (by omega)
                  clear hj hg hu hv
                  go_wp2_with fail
                  refine (mreads_any u _ _ (HV.out.only0 O.out) us.out (by omega) (by omega)).mono ?_
                  rintro e w2 ⟨rfl, hO⟩
                  have X2 := hid hO
                  have cv2 := CV.out _ (P.out.only hO)
                  clear hO cv P CV
                  go_wp2_with fail
                  refine (mreads_any v _ _ (HV.out.only0 (O.out.trans X2.out)) vs.out (by omega) (by omega)).mono ?_
                  rintro e w3 ⟨rfl, hO⟩
                  have X3 := hid (X2.out.trans hO)
                  clear hO cv2 q
                  have cv3 := conv_bytes (w := w3.alloc (.cells #[.int .u8 (j : Int), .int .u8 (7 * (j : Int)), .int .u8 64, .int .u8 1] 5)) (b := w3.heap.size) (l := [UInt8.ofNat j, UInt8.ofNat (7 * j), 64, 1]) (fun k hk => by
                    rw [World.cell?_alloc_new]
                    obtain rfl | rfl | rfl | rfl : k = 0 ∨ k = 1 ∨ k = 2 ∨ k = 3 := by simp at hk; omega
                    · simp; omega
                    · simp; omega
                    · rfl
                    · rfl) 4 4 rfl
                  have zs : (⟨[UInt8.ofNat j, UInt8.ofNat (7 * j), 64, 1].toArray⟩ : ByteArray).size ≤ maxLen := show 4 ≤ maxLen by unfold maxLen; omega
                  generalize (⟨[UInt8.ofNat j, UInt8.ofNat (7 * j), 64, 1].toArray⟩ : ByteArray) = z at cv3 zs
                  have zs := hid zs
                  go_wp2_with fail
                  refine (mreads_any z _ _ (HV.out.only0 (O.out.trans (X3.out.alloc _))) zs.out (by omega) (by omega)).mono ?_
                  rintro e w4 ⟨rfl, hO⟩
                  have X4 := hid ((X3.out.alloc _).trans hO)
                  clear hO cv3
                  go_wp2_with fail
                  go_roundg g
                  case measure => omega
                  case rel => exact ⟨j + 1, JG.out, by go_num, B.out.only X4.out, O.out.trans X4.out⟩
            · have g1 : (j : Int) < 100 := by omega
              obtain ⟨g, rfl⟩ : ∃ g, gk = g + 1 := ⟨gk - 1, by omega⟩
              have JG := hid (show j + 1 + g = 100 by omega)
              have z0 := N.out.cells j (by omega)
              rw [if_neg (by omega)] at z0
              have f0 := N.out.free j
              have NX := hid (N.out.step (j := j) (by omega))
              clear hj hg
              go_wp2_with fail
              go_roundg g
              case measure => omega
              case rel => exact ⟨j + 1, JG.out, by go_num, NX.out, O.out.setCell (.inr cW.out) _⟩
        · have g1 : (j : Int) < 67 := by omega
          obtain ⟨g, rfl⟩ : ∃ g, gk = g + 1 := ⟨gk - 1, by omega⟩
          have JG := hid (show j + 1 + g = 67 by omega)
          obtain ⟨z0, z1, z2⟩ := M.out.cells j (by omega)
          have f0 := M.out.free (j * 3)
          have f1 := M.out.free (j * 3 + 1)
          have f2 := M.out.free (j * 3 + 2)
          have MX := hid (M.out.step (j := j) (by omega))
          clear hj hg
          go_wp2_with fail
          go_roundg g
          case measure => omega
          case rel => exact ⟨j + 1, JG.out, by go_num, MX.out, ((O.out.setCell (.inr bW.out) _).setCell (.inr bW.out) _).setCell (.inr bW.out) _⟩
    · have g1 : (i : Int) < 9 := by omega
      obtain ⟨g, rfl⟩ : ∃ g, gk = g + 1 := ⟨gk - 1, by omega⟩
      have IG := hid (show i + 1 + g = 9 by omega)
      clear hi hg
      go_wp2_with fail
      go_loopg [3] 8 (fun g t wr => ∃ j : Nat, j + g = 8 ∧ t = .int .i64 j ∧ EndsAt wr p ∧ Only [] W wr)
      case atStart => exact ⟨0, by omega, rfl, E.out, O.out⟩
      case round =>
        obtain ⟨j, hj, rfl, hE, hO⟩ := hrel
        have E1 := hid hE
        have O1 := hid hO
        clear hE hO E O
        have j0 : (0 : Int) ≤ (j : Int) := by omega
        by_cases hg : gk = 0
        · obtain rfl : j = 8 := by omega
          clear hj hg
          go_wp2_with fail
          go_roundg g
          case measure => omega
          case rel => exact ⟨i + 1, IG.out, by go_num, E1.out, O1.out⟩
        · have k1 : (j : Int) < 8 := by omega
          obtain ⟨g2, rfl⟩ : ∃ g, gk = g + 1 := ⟨gk - 1, by omega⟩
          have JG := hid (show j + 1 + g2 = 8 by omega)
          have x0 := E1.out j (by omega)
          have EL := hid (en_le j)
          generalize en j = A at *
          clear hj hg
          go_wp2_with fail
          have W1 := hid ((Only.refl [] wr).alloc (.cells #[.int .u8 (i : Int), .int .i64 A, .int .i64 0] 50))
          refine (mcheck_lit [((i : Int), A, (0 : Int))] (i : Int) _ (by exact HV.out.only0 (O1.out.trans W1.out)) (by simp) (oks_one ⟨⟨i0, by dsimp only; omega⟩, EL.out, by simp⟩) (by omega) (by omega) 1 rfl _ (by simp) _ rfl).mono ?_
          rintro e w1 ⟨rfl, hO⟩
          have X1 := hid (W1.out.trans hO)
          have x1 := X1.out.cell x0 (by simp)
          clear hO W1 x0
          go_wp2_with fail
          refine (mcheck_lit [((1 : Int), (0 : Int), (0 : Int)), ((i : Int), (1 : Int), A), ((2 : Int), (0 : Int), (0 : Int))] (j : Int) _ (by exact HV.out.only0 (O1.out.trans X1.out)) (by simp) (oks_cons ⟨by simp, by simp, by simp⟩ (oks_cons ⟨⟨i0, by dsimp only; omega⟩, by simp, EL.out⟩ (oks_one ⟨by simp, by simp, by simp⟩))) (by omega) (by omega) 3 rfl _ rfl _ rfl).mono ?_
          rintro e w2 ⟨rfl, hO⟩
          have X2 := hid (X1.out.trans hO)
          clear hO x1
          go_wp2_with fail
          go_roundg g2
          case measure => omega
          case rel => exact ⟨j + 1, JG.out, by go_num, E1.out.only X2.out, O1.out.trans X2.out⟩
end Go.Proofs.YtdkmeldcpamnnaaDoor

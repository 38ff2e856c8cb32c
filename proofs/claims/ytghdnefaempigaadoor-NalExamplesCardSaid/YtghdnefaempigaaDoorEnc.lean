/- The program's Encode. Condition: at most 50,000 bytes. -/
import Derived.Test.YtghdnefaempigaaDoorEnM
import Derived.Test.YtghdnefaempigaaDoorEsc
namespace Go.Proofs.YtghdnefaempigaaDoor
open Go.RowKit
set_option linter.unusedVariables false
set_option linter.unusedSimpArgs false

theorem or_all : ∀ r, r ≤ 3 → ∀ k, k ≤ 31 → bits BinOp.or IntKind.u8 (((r : Nat) : Int) * 32) ((k : Nat) : Int) = ((32 * r + k : Nat) : Int) := by
  have h : ∀ r : Fin 4, ∀ k : Fin 32, bits BinOp.or IntKind.u8 ((r.val : Int) * 32) (k.val : Int) = ((32 * r.val + k.val : Nat) : Int) := by decide +kernel
  exact fun r hr k hk => h ⟨r, by omega⟩ ⟨k, by omega⟩
set_option maxHeartbeats 1000000 in
theorem encode_range (r k : Nat) (s : ByteArray) (w : World) (h : 3 < r ∨ 31 < k) (hr : r ≤ 255) (hk : k ≤ 255) :
    Calls Tryd.prog 18 #[.agg #[.int .u8 r, .int .u8 k, .string s]] w fun e w' => e = .returned (.tuple #[.string ⟨#[]⟩, .int .i64 3]) ∧ Only [] w w' := by
  have h' : (3 : Int) < (r : Int) ∨ ((r : Int) ≤ 3 ∧ (31 : Int) < (k : Int)) := by omega
  clear h
  rcases h' with h1 | ⟨h1, h2⟩
  all_goals
    go_enter Tryd.func18, Tryd.ntmps18
    go_wp2
    go_ret2
    exact ⟨rfl, (Only.refl [] w).alloc _⟩

set_option maxHeartbeats 2000000 in
theorem encode_yes (r k : Nat) (s : ByteArray) (w : World) (hr : r ≤ 3) (hk : k ≤ 31) (hs : s.size ≤ 50000) :
    Calls Tryd.prog 18 #[.agg #[.int .u8 r, .int .u8 k, .string s]] w fun e w' => e = .returned (.tuple #[.string (encR r k s.data.toList).1, .int .i64 (encR r k s.data.toList).2]) ∧ Only [] w w' := by
  have h1 : (r : Int) ≤ 3 := by omega
  have h2 : (k : Int) ≤ 31 := by omega
  have ES := hid (fun w => esc_any s w (by omega))
  obtain ⟨x, y, T, hT0, hxn, hT, tx, ty, hTs, ENC⟩ := unit_facts r k s.data.toList hr hk (by simpa using hs)
  obtain ⟨U, hU⟩ : ∃ U, U = encR r k s.data.toList := ⟨_, rfl⟩
  rw [← hU] at ENC ⊢
  obtain ⟨us, ue⟩ := U
  have hw1 : IntKind.u8.wrap ((r : Int) * 32) = (r : Int) * 32 := by rw [IntKind.wrap_u8]; omega
  have hw2 : bits BinOp.or IntKind.u8 ((r : Int) * 32) (k : Int) = (x.toNat : Int) := by rw [hxn]; exact or_all r hr k hk
  have es1 : (bytesOf [x]).size + (bytesOf (esc s.data.toList)).size ≤ 9223372036854775807 := by
    have := (esc_len s.data.toList).2
    have h3 : s.data.toList.length = s.size := by simp
    rw [size_bytesOf, size_bytesOf]; simp only [List.length_cons, List.length_nil]; omega
  have es2 : ((bytesOf [x]).size : Int) + ((bytesOf (esc s.data.toList)).size : Int) ≤ 9223372036854775807 := by omega
  have CA := hid (fun w => conv_new x w)
  have CD := hid (fun w => conv_newd x w)
  have CB := hid (fun w g h => conv_byte x w g h)
  have HT := hid hT
  have EN := hid ENC
  have XN := hid hxn
  have TX := hid (And.intro tx ty)
  clear hU ENC hT hxn tx ty
  generalize bytesOf (esc s.data.toList) = es at *
  generalize bytesOf [x] = xs at *
  go_enter Tryd.func18, Tryd.ntmps18
  go_wp2_with fail
  have x0 : (World.alloc w (.cells #[.int .u8 r, .int .u8 k, .string s] 27)).cell? ⟨w.heap.size, 0, none⟩ = some (.int .u8 r) := by simp
  have x1 : (World.alloc w (.cells #[.int .u8 r, .int .u8 k, .string s] 27)).cell? ⟨w.heap.size, 1, none⟩ = some (.int .u8 k) := by simp
  have x2 : (World.alloc w (.cells #[.int .u8 r, .int .u8 k, .string s] 27)).cell? ⟨w.heap.size, 2, none⟩ = some (.string s) := by simp
  have O1 : Only [] w (World.alloc w (.cells #[.int .u8 r, .int .u8 k, .string s] 27)) := (Only.refl [] w).alloc _
  generalize World.alloc w _ = W at *
  generalize w.heap.size = p at *
  have O1 := hid O1
  have hpW : p < W.heap.size := World.block_lt_of_cell? _ _ x0
  have ca := CA.out W
  have cd := CD.out W
  have hpA : p < (W.alloc (.cells #[.int .u8 x.toNat] 5)).heap.size := by simp; omega
  have y0 : (W.alloc (.cells #[.int .u8 x.toNat] 5)).cell? ⟨p, 0, none⟩ = some (.int .u8 r) := by rw [World.cell?_of_block (w := W) (Below.heap_alloc _ _ _ (by simp; omega))]; exact x0
  have y1 : (W.alloc (.cells #[.int .u8 x.toNat] 5)).cell? ⟨p, 1, none⟩ = some (.int .u8 k) := by rw [World.cell?_of_block (w := W) (Below.heap_alloc _ _ _ (by simp; omega))]; exact x1
  have y2 : (W.alloc (.cells #[.int .u8 x.toNat] 5)).cell? ⟨p, 2, none⟩ = some (.string s) := by rw [World.cell?_of_block (w := W) (Below.heap_alloc _ _ _ (by simp; omega))]; exact x2
  have YA := hid (And.intro hpA (And.intro y0 (And.intro y1 y2)))
  have EN1 := hid (show Calls Tryd.prog 16 #[.string s] (W.alloc (.cells #[.int .u8 x.toNat] 5)).drew fun e w3 => e = .returned (.string es) ∧ Only [] (W.alloc (.cells #[.int .u8 x.toNat] 5)).drew w3 ∧ (convert 38 9 (.slice (some ⟨W.heap.size, 0, none⟩) 1 1)).run Tryd.prog w3 = .ok (.string xs) w3 from
    (ES.out _).mono (fun e w3 h => ⟨h.1, h.2, CB.out w3 W.heap.size (((only_cell h.2).1 W.heap.size 0 (by simp)).trans (by simp))⟩))
  have K3 := hid (show Cells3 W p r k s from ⟨x0, x1, x2⟩)
  go_cut [4] from 13 to 24 (fun v wx => v = .string (xs ++ es) ∧ Only [] W wx)
  case first =>
    clear HT EN XN TX hpA y0 y1 y2
    refine wp_region_held_drew (S := fun w' => Only [] W w' ∧ w'.cell? ⟨p, 0, none⟩ = some (.int .u8 r) ∧ w'.cell? ⟨p, 1, none⟩ = some (.int .u8 k) ∧ w'.cell? ⟨p, 2, none⟩ = some (.string s)) (by kernel_rfl) ?_ (fun hHeld => ?_)
    · exact keep3 K3.out ((Only.refl [] W).drew)
    refine wpAnyH_take (i := 0) (oi := _) (v := ?_) rfl (by kernel_rfl) (by kernel_rfl) (by kernel_rfl) (fun _ _ _ h => h) (Or.inl ⟨by rfl, ?_⟩) (by assumption) ?_
    rotate_left
    · intro w' hSw
      (try dsimp only at hSw)
      go_simp
      all_goals with_reducible rfl
    (try simp only [Act.put, List.getElem_toArray, List.getElem_cons_zero, List.getElem_cons_succ, List.setIfInBounds_toArray, List.set_cons_zero, List.set_cons_succ])
    refine wpAnyH_take (i := 3) (oi := _) (v := ?_) rfl (by kernel_rfl) (by kernel_rfl) (by kernel_rfl) (fun _ _ _ h => h) (Or.inl ⟨by rfl, ?_⟩) (by assumption) ?_
    rotate_left
    · intro w' hSw
      (try dsimp only at hSw)
      go_simp
      all_goals with_reducible rfl
    (try simp only [Act.put, List.getElem_toArray, List.getElem_cons_zero, List.getElem_cons_succ, List.setIfInBounds_toArray, List.set_cons_zero, List.set_cons_succ])
    refine wpAnyH_take (i := 8) (oi := _) (v := ?_) rfl (by kernel_rfl) (by kernel_rfl) (by kernel_rfl) (fun _ _ _ h => h) (Or.inl ⟨by rfl, ?_⟩) (by assumption) ?_
    rotate_left
    · intro w' hSw
      (try dsimp only at hSw)
      go_simp
      all_goals with_reducible rfl
    (try simp only [Act.put, List.getElem_toArray, List.getElem_cons_zero, List.getElem_cons_succ, List.setIfInBounds_toArray, List.set_cons_zero, List.set_cons_succ])
    refine wpAnyH_take (i := 1) (oi := _) (v := ?_) rfl (by kernel_rfl) (by kernel_rfl) (by kernel_rfl) (fun _ _ _ h => h) (Or.inl ⟨by rfl, ?_⟩) (by assumption) ?_
    rotate_left
    · intro w' hSw
      (try dsimp only at hSw)
      go_simp
      all_goals with_reducible rfl
    (try simp only [Act.put, List.getElem_toArray, List.getElem_cons_zero, List.getElem_cons_succ, List.setIfInBounds_toArray, List.set_cons_zero, List.set_cons_succ])
    refine wpAnyH_take (i := 2) (oi := _) (v := ?_) rfl (by kernel_rfl) (by kernel_rfl) (by kernel_rfl) (fun _ _ _ h => h) (Or.inl ⟨by rfl, ?_⟩) (by assumption) ?_
    rotate_left
    · intro w' hSw
      (try dsimp only at hSw)
      go_simp
      all_goals with_reducible rfl
    (try simp only [Act.put, List.getElem_toArray, List.getElem_cons_zero, List.getElem_cons_succ, List.setIfInBounds_toArray, List.set_cons_zero, List.set_cons_succ])
    refine wpAnyH_take (i := 4) (oi := _) (v := ?_) rfl (by kernel_rfl) (by kernel_rfl) (by kernel_rfl) (fun _ _ _ h => h) (Or.inl ⟨by rfl, ?_⟩) (by assumption) ?_
    rotate_left
    · intro w' hSw
      (try dsimp only at hSw)
      go_simp
      all_goals with_reducible rfl
    (try simp only [Act.put, List.getElem_toArray, List.getElem_cons_zero, List.getElem_cons_succ, List.setIfInBounds_toArray, List.set_cons_zero, List.set_cons_succ])
    refine wpAnyH_take (i := 5) (oi := _) (v := ?_) rfl (by kernel_rfl) (by kernel_rfl) (by kernel_rfl) (fun _ _ _ h => h) (Or.inl ⟨by rfl, ?_⟩) (by assumption) ?_
    rotate_left
    · intro w' hSw
      (try dsimp only at hSw)
      go_simp
      all_goals with_reducible rfl
    (try simp only [Act.put, List.getElem_toArray, List.getElem_cons_zero, List.getElem_cons_succ, List.setIfInBounds_toArray, List.set_cons_zero, List.set_cons_succ])
    refine wpAnyH_take (i := 9) (oi := _) (v := ?_) rfl (by kernel_rfl) (by kernel_rfl) (by kernel_rfl) (fun _ _ _ h => h) (Or.inl ⟨by rfl, ?_⟩) (by assumption) ?_
    rotate_left
    · intro w' hSw
      (try dsimp only at hSw)
      go_simp
      all_goals with_reducible rfl
    (try simp only [Act.put, List.getElem_toArray, List.getElem_cons_zero, List.getElem_cons_succ, List.setIfInBounds_toArray, List.set_cons_zero, List.set_cons_succ])
    refine wpAnyH_ready (rs := [6, 10]) (by kernel_rfl) (by simp) ?_
    refine AllReadyH.cons rfl (fun K hK => ?_) (AllReadyH.cons rfl (fun K hK => ?_) AllReadyH.nil)
    · skip
      go_simp
      refine hK.out _ _ ?_ (fun hHeld => ?_)
      · refine keep3 K3.out ?_
        (repeat (first | with_reducible exact Only.refl _ _ | with_reducible refine Only.alloc ?_ _ | with_reducible refine Only.drew ?_ | (refine Only.trans ?_ (show Only [] _ _ from by with_reducible assumption))))
      clear hK K
      (try simp only [Act.put, List.getElem_toArray, List.getElem_cons_zero, List.getElem_cons_succ, List.setIfInBounds_toArray, List.set_cons_zero, List.set_cons_succ])
      refine wpAnyH_ready (rs := [7, 10]) (by kernel_rfl) (by simp) ?_
      refine AllReadyH.cons rfl (fun K hK => ?_) (AllReadyH.cons rfl (fun K hK => ?_) AllReadyH.nil)
      · skip
        go_simp
        refine hK.out _ _ ?_ (fun hHeld => ?_)
        · refine keep3 K3.out ?_
          (repeat (first | with_reducible exact Only.refl _ _ | with_reducible refine Only.alloc ?_ _ | with_reducible refine Only.drew ?_ | (refine Only.trans ?_ (show Only [] _ _ from by with_reducible assumption))))
        clear hK K
        (try simp only [Act.put, List.getElem_toArray, List.getElem_cons_zero, List.getElem_cons_succ, List.setIfInBounds_toArray, List.set_cons_zero, List.set_cons_succ])
        refine wpAnyH_ready (rs := [10]) (by kernel_rfl) (by simp) ?_
        refine AllReadyH.cons rfl (fun K hK => ?_) AllReadyH.nil
        · skip
          go_simp
          (go_at_call 16; (with_reducible refine EN1.out.mono ?_); rintro e w3 ⟨rfl, ho3, cw⟩)
          refine hK.out _ _ ?_ (fun hHeld => ?_)
          · refine keep3 K3.out ?_
            (repeat (first | with_reducible exact Only.refl _ _ | with_reducible refine Only.alloc ?_ _ | with_reducible refine Only.drew ?_ | (refine Only.trans ?_ (show Only [] _ _ from by with_reducible assumption))))
          clear hK K
          (try simp only [Act.put, List.getElem_toArray, List.getElem_cons_zero, List.getElem_cons_succ, List.setIfInBounds_toArray, List.set_cons_zero, List.set_cons_succ])
          refine wpAnyH_ready (rs := [11]) (by kernel_rfl) (by simp) ?_
          refine AllReadyH.cons rfl (fun K hK => ?_) AllReadyH.nil
          · skip
            go_simp
            go_wp2_with fail
            refine hK.out _ _ ?_ (fun hHeld => ?_)
            · refine keep3 K3.out ?_
              (repeat (first | with_reducible exact Only.refl _ _ | with_reducible refine Only.alloc ?_ _ | with_reducible refine Only.drew ?_ | (refine Only.trans ?_ (show Only [] _ _ from by with_reducible assumption))))
            clear hK K
            (try simp only [Act.put, List.getElem_toArray, List.getElem_cons_zero, List.getElem_cons_succ, List.setIfInBounds_toArray, List.set_cons_zero, List.set_cons_succ])
            refine wpAnyH_take (i := 12) (oi := _) (v := ?_) rfl (by kernel_rfl) (by kernel_rfl) (by kernel_rfl) (fun _ _ _ h => h) (Or.inl ⟨by rfl, ?_⟩) (by assumption) ?_
            rotate_left
            · intro w' hSw
              (try dsimp only at hSw)
              go_simp
              all_goals with_reducible rfl
            (try simp only [Act.put, List.getElem_toArray, List.getElem_cons_zero, List.getElem_cons_succ, List.setIfInBounds_toArray, List.set_cons_zero, List.set_cons_succ])
            refine wpAnyH_done (by kernel_rfl) ?_ _
            go_wp2_with fail
            go_meet
            refine ⟨rfl, ?_⟩
            exact hHeld.1
      · skip
        go_simp
        (go_at_call 16; (with_reducible refine EN1.out.mono ?_); rintro e w3 ⟨rfl, ho3, cw⟩)
        refine hK.out _ _ ?_ (fun hHeld => ?_)
        · refine keep3 K3.out ?_
          (repeat (first | with_reducible exact Only.refl _ _ | with_reducible refine Only.alloc ?_ _ | with_reducible refine Only.drew ?_ | (refine Only.trans ?_ (show Only [] _ _ from by with_reducible assumption))))
        clear hK K
        (try simp only [Act.put, List.getElem_toArray, List.getElem_cons_zero, List.getElem_cons_succ, List.setIfInBounds_toArray, List.set_cons_zero, List.set_cons_succ])
        refine wpAnyH_ready (rs := [7]) (by kernel_rfl) (by simp) ?_
        refine AllReadyH.cons rfl (fun K hK => ?_) AllReadyH.nil
        · skip
          go_simp
          refine hK.out _ _ ?_ (fun hHeld => ?_)
          · refine keep3 K3.out ?_
            (repeat (first | with_reducible exact Only.refl _ _ | with_reducible refine Only.alloc ?_ _ | with_reducible refine Only.drew ?_ | (refine Only.trans ?_ (show Only [] _ _ from by with_reducible assumption))))
          clear hK K
          (try simp only [Act.put, List.getElem_toArray, List.getElem_cons_zero, List.getElem_cons_succ, List.setIfInBounds_toArray, List.set_cons_zero, List.set_cons_succ])
          refine wpAnyH_ready (rs := [11]) (by kernel_rfl) (by simp) ?_
          refine AllReadyH.cons rfl (fun K hK => ?_) AllReadyH.nil
          · skip
            go_simp
            go_wp2_with fail
            refine hK.out _ _ ?_ (fun hHeld => ?_)
            · refine keep3 K3.out ?_
              (repeat (first | with_reducible exact Only.refl _ _ | with_reducible refine Only.alloc ?_ _ | with_reducible refine Only.drew ?_ | (refine Only.trans ?_ (show Only [] _ _ from by with_reducible assumption))))
            clear hK K
            (try simp only [Act.put, List.getElem_toArray, List.getElem_cons_zero, List.getElem_cons_succ, List.setIfInBounds_toArray, List.set_cons_zero, List.set_cons_succ])
            refine wpAnyH_take (i := 12) (oi := _) (v := ?_) rfl (by kernel_rfl) (by kernel_rfl) (by kernel_rfl) (fun _ _ _ h => h) (Or.inl ⟨by rfl, ?_⟩) (by assumption) ?_
            rotate_left
            · intro w' hSw
              (try dsimp only at hSw)
              go_simp
              all_goals with_reducible rfl
            (try simp only [Act.put, List.getElem_toArray, List.getElem_cons_zero, List.getElem_cons_succ, List.setIfInBounds_toArray, List.set_cons_zero, List.set_cons_succ])
            refine wpAnyH_done (by kernel_rfl) ?_ _
            go_wp2_with fail
            go_meet
            refine ⟨rfl, ?_⟩
            exact hHeld.1
    · skip
      go_simp
      (go_at_call 16; (with_reducible refine (ES.out _).mono ?_); rintro e w3 ⟨rfl, ho3⟩; have ca3 := CA.out w3)
      refine hK.out _ _ ?_ (fun hHeld => ?_)
      · refine keep3 K3.out ?_
        (repeat (first | with_reducible exact Only.refl _ _ | with_reducible refine Only.alloc ?_ _ | with_reducible refine Only.drew ?_ | (refine Only.trans ?_ (show Only [] _ _ from by with_reducible assumption))))
      clear hK K
      (try simp only [Act.put, List.getElem_toArray, List.getElem_cons_zero, List.getElem_cons_succ, List.setIfInBounds_toArray, List.set_cons_zero, List.set_cons_succ])
      refine wpAnyH_ready (rs := [6]) (by kernel_rfl) (by simp) ?_
      refine AllReadyH.cons rfl (fun K hK => ?_) AllReadyH.nil
      · skip
        go_simp
        refine hK.out _ _ ?_ (fun hHeld => ?_)
        · refine keep3 K3.out ?_
          (repeat (first | with_reducible exact Only.refl _ _ | with_reducible refine Only.alloc ?_ _ | with_reducible refine Only.drew ?_ | (refine Only.trans ?_ (show Only [] _ _ from by with_reducible assumption))))
        clear hK K
        (try simp only [Act.put, List.getElem_toArray, List.getElem_cons_zero, List.getElem_cons_succ, List.setIfInBounds_toArray, List.set_cons_zero, List.set_cons_succ])
        refine wpAnyH_ready (rs := [7]) (by kernel_rfl) (by simp) ?_
        refine AllReadyH.cons rfl (fun K hK => ?_) AllReadyH.nil
        · skip
          go_simp
          refine hK.out _ _ ?_ (fun hHeld => ?_)
          · refine keep3 K3.out ?_
            (repeat (first | with_reducible exact Only.refl _ _ | with_reducible refine Only.alloc ?_ _ | with_reducible refine Only.drew ?_ | (refine Only.trans ?_ (show Only [] _ _ from by with_reducible assumption))))
          clear hK K
          (try simp only [Act.put, List.getElem_toArray, List.getElem_cons_zero, List.getElem_cons_succ, List.setIfInBounds_toArray, List.set_cons_zero, List.set_cons_succ])
          refine wpAnyH_ready (rs := [11]) (by kernel_rfl) (by simp) ?_
          refine AllReadyH.cons rfl (fun K hK => ?_) AllReadyH.nil
          · skip
            go_simp
            go_wp2_with fail
            refine hK.out _ _ ?_ (fun hHeld => ?_)
            · refine keep3 K3.out ?_
              (repeat (first | with_reducible exact Only.refl _ _ | with_reducible refine Only.alloc ?_ _ | with_reducible refine Only.drew ?_ | (refine Only.trans ?_ (show Only [] _ _ from by with_reducible assumption))))
            clear hK K
            (try simp only [Act.put, List.getElem_toArray, List.getElem_cons_zero, List.getElem_cons_succ, List.setIfInBounds_toArray, List.set_cons_zero, List.set_cons_succ])
            refine wpAnyH_take (i := 12) (oi := _) (v := ?_) rfl (by kernel_rfl) (by kernel_rfl) (by kernel_rfl) (fun _ _ _ h => h) (Or.inl ⟨by rfl, ?_⟩) (by assumption) ?_
            rotate_left
            · intro w' hSw
              (try dsimp only at hSw)
              go_simp
              all_goals with_reducible rfl
            (try simp only [Act.put, List.getElem_toArray, List.getElem_cons_zero, List.getElem_cons_succ, List.setIfInBounds_toArray, List.set_cons_zero, List.set_cons_succ])
            refine wpAnyH_done (by kernel_rfl) ?_ _
            go_wp2_with fail
            go_meet
            refine ⟨rfl, ?_⟩
            exact hHeld.1
  case rest =>
    obtain ⟨rfl, hOx⟩ := hcut
    have OX := hid (O1.out.trans hOx)
    rw [HT.out]
    have FT := hid (fun w => fit_any T w hT0 (by omega))
    have hfit : fitB T hT0 = decide (32 * r + k ≠ 0 ∧ y ≠ 0) := by
      unfold fitB
      rw [TX.out.1, TX.out.2, ← XN.out]
      have a1 : x.toNat ≤ 127 := by rw [XN.out]; omega
      have a2 : (x ≠ 0) ↔ (x.toNat ≠ 0) := by rw [ne_eq, ne_eq, ← UInt8.toNat_inj]; rfl
      rw [Bool.eq_iff_iff]
      simp only [Bool.and_eq_true, decide_eq_true_eq, a1, and_true, a2]
    clear hw1 hw2 x0 x1 x2 hOx ca cd EN1 YA hpA y0 y1 y2 K3 CA CD CB es1 es2
    by_cases ha : 32 * r + k = 0 ∨ y = 0
    · have E := EN.out
      rw [if_pos ha] at E
      have hf : fitB T hT0 = false := by rw [hfit, decide_eq_false_iff_not]; intro e; rcases ha with h | h; exact e.1 h; exact e.2 h
      have E := hid E
      clear ha hfit
      go_wp2_with (go_at_call 26; refine (FT.out _).mono ?_; rintro e w' ⟨rfl, rfl⟩; rw [hf])
      go_ret2
      have E := E.out
      simp only [Prod.mk.injEq] at E
      obtain ⟨rfl, rfl⟩ := E
      exact ⟨rfl, OX.out⟩
    · have E := EN.out
      rw [if_neg ha] at E
      have hf : fitB T hT0 = true := by rw [hfit, decide_eq_true_eq]; exact ⟨fun e => ha (.inl e), fun e => ha (.inr e)⟩
      have E := hid E
      clear ha hfit
      go_wp2_with (go_at_call 26; refine (FT.out _).mono ?_; rintro e w' ⟨rfl, rfl⟩; rw [hf])
      go_ret2
      have E := E.out
      simp only [Prod.mk.injEq] at E
      obtain ⟨rfl, rfl⟩ := E
      exact ⟨rfl, OX.out⟩
theorem encode_any (r k : Nat) (s : ByteArray) (w : World) (hr : r ≤ 255) (hk : k ≤ 255) (hs : s.size ≤ 50000) :
    Calls Tryd.prog 18 #[.agg #[.int .u8 r, .int .u8 k, .string s]] w fun e w' => e = .returned (.tuple #[.string (encR r k s.data.toList).1, .int .i64 (encR r k s.data.toList).2]) ∧ Only [] w w' := by
  by_cases h : 3 < r ∨ 31 < k
  · have e : encR r k s.data.toList = (⟨#[]⟩, 3) := by unfold encR; rw [if_pos h]
    rw [e]
    exact encode_range r k s w h hr hk
  · exact encode_yes r k s w (by omega) (by omega) hs
end Go.Proofs.YtghdnefaempigaaDoor

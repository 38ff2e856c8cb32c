/- BitsExamples: the examples of the chapter, and objects that are nil. -/
import Derived.Test.YtbbmmpjhpleceaaSt
import Derived.Deep.LoopGhost
import Derived.Deep.QuietTactic
import Derived.BigQuiet
namespace Go.Proofs.Ytbbmmpjhpleceaa
open Go.RowKit
set_option linter.unusedVariables false

set_option maxHeartbeats 400000 in
theorem len_nil (w : World) : Calls Try.prog 28 #[.pointer none] w fun e w' => e = .returned (.int .i64 0) ∧ w = w' := by
  go_enter Try.func28, Try.ntmps28
  go_wp2
  go_ret
  exact ⟨rfl, rfl⟩
set_option maxHeartbeats 400000 in
theorem bytes_nil (w : World) : Calls Try.prog 32 #[.pointer none] w fun e w' => e = .returned (.string ⟨#[]⟩) ∧ w = w' := by
  go_enter Try.func32, Try.ntmps32
  go_wp2
  go_ret
  exact ⟨rfl, rfl⟩
set_option maxHeartbeats 400000 in
theorem bits_nil (w : World) : Calls Try.prog 30 #[.pointer none] w fun e w' => e = .returned (.string ⟨#[]⟩) ∧ Only [] w w' := by
  have hmk : ∀ w : World, (Instr.makeSlice 60 (.int .i64 0) (.int .i64 0)).run Try.prog w = .ok (.slice (some ⟨w.heap.size, 0, none⟩) 0 0) (w.alloc (.cells (madeCells #[.int .u8 0] 0) 5)) :=
    fun w => run_make_row' (P := Try.prog) 60 5 (.int .u8 0) 1 und_bytes info_u8 rfl .i64 .i64 0 (by omega) (by omega) w
  have CV : ∀ (w : World) (b : Nat), (convert 60 9 (.slice (some ⟨b, 0, none⟩) 0 0)).run Try.prog w = .ok (.string ⟨#[]⟩) w := fun w b => by
    have := run_convert_bytes_back w 60 9 5 ⟨b, 0, none⟩ 0 [] und_bytes und_u8 und_str (fun j hj => by simp at hj)
    exact this
  go_enter Try.func30, Try.ntmps30
  go_wp2_with (first | (go_at_call 32; refine (bytes_nil _).mono ?_; rintro e w1 ⟨rfl, rfl⟩) | (go_at_call 28; refine (len_nil _).mono ?_; rintro e w2 ⟨rfl, rfl⟩))
  go_loopg [13] 0 (fun g c wr => c = .int .i64 0 ∧ Only [] w wr)
  case atStart => exact ⟨rfl, (Only.refl _ _).alloc _⟩
  case round =>
    obtain ⟨rfl, hO⟩ := hrel
    have O := hid hO
    clear hO
    go_wp2
    go_ret
    exact ⟨rfl, O.out⟩

/-- The bits of the chapter's writer, behind all calls. -/
def l70 : List Bool := [true, false, true, false, true, true] ++ List.replicate 64 true
theorem l70_size : (chars l70).size = 70 := by decide +kernel
theorem l70_len : l70.length = 70 := by decide +kernel
theorem l70_bytes : pack l70 = ⟨#[175, 255, 255, 255, 255, 255, 255, 255, 252]⟩ := by decide +kernel

def ansL (j : Nat) : Int := [0, 0, 2, 0, 2, 3, 0].getD j 0
theorem two_rows (w : World) (t : TypeId) : ∀ j, j < 7 →
    ((w.alloc (.cells #[.int .i64 0, .int .i64 0, .int .i64 2, .int .i64 0, .int .i64 2, .int .i64 3, .int .i64 0] t)).alloc (.cells #[.int .i64 0, .int .i64 0, .int .i64 2, .int .i64 0, .int .i64 2, .int .i64 3, .int .i64 0] t)).cell? ⟨w.heap.size, j, none⟩ = some (.int .i64 (ansL j)) ∧
    ((w.alloc (.cells #[.int .i64 0, .int .i64 0, .int .i64 2, .int .i64 0, .int .i64 2, .int .i64 3, .int .i64 0] t)).alloc (.cells #[.int .i64 0, .int .i64 0, .int .i64 2, .int .i64 0, .int .i64 2, .int .i64 3, .int .i64 0] t)).cell? ⟨w.heap.size + 1, j, none⟩ = some (.int .i64 (ansL j)) := by
  intro j hj
  obtain rfl | rfl | rfl | rfl | rfl | rfl | rfl : j = 0 ∨ j = 1 ∨ j = 2 ∨ j = 3 ∨ j = 4 ∨ j = 5 ∨ j = 6 := by omega
  all_goals
    constructor
    · rw [World.cell?_alloc_lt _ _ _ (by simp)]; simp [ansL]
    · have := World.cell?_alloc_new (w.alloc (.cells #[.int .i64 0, .int .i64 0, .int .i64 2, .int .i64 0, .int .i64 2, .int .i64 3, .int .i64 0] t)) #[.int .i64 0, .int .i64 0, .int .i64 2, .int .i64 0, .int .i64 2, .int .i64 3, .int .i64 0] t
      rw [World.size_alloc] at this
      rw [this]; simp [ansL]

set_option maxRecDepth 100000 in
set_option maxHeartbeats 4000000 in
theorem examples_walk (w : World) : Calls Try.prog 5 #[] w fun e w' => e = .returned (.bool true) ∧ Only [] w w' := by
  go_enter Try.func5, Try.ntmps5
  go_wp2_with fail
  refine (read_any _ w (by decide)).mono ?_
  rintro e w1 ⟨rfl, hr1, ho1⟩
  have hlt := hr1.lt
  obtain ⟨r, hr⟩ : ∃ r, r = w.heap.size := ⟨_, rfl⟩
  rw [← hr] at hr1 hlt ⊢
  have RW := hid (fun x (hx : x ∈ [r]) => (Or.inr (by rw [List.mem_singleton.1 hx, hr]; exact Nat.le_refl _) : x ∈ ([] : List Nat) ∨ w.heap.size ≤ x))
  clear hr hlt
  go_wp2_with fail
  refine (u_lit hr1 10 0 4 (by decide +kernel) (by decide +kernel) (by decide +kernel)).mono ?_
  rintro e w2 ⟨rfl, hr2, ho2⟩
  have O2 := hid (ho1.trans2 ho2 RW.out)
  clear ho2 ho1 hr1
  go_wp2_with fail
  refine (u_lit hr2 0 0 4 (by decide +kernel) (by decide +kernel) (by decide +kernel)).mono ?_
  rintro e w3 ⟨rfl, hr3, ho3⟩
  have O3 := hid (O2.out.trans2 ho3 RW.out)
  clear ho3 hr2
  go_wp2_with fail
  refine (u_lit hr3 80 0 12 (by decide +kernel) (by decide +kernel) (by decide +kernel)).mono ?_
  rintro e w4 ⟨rfl, hr4, ho4⟩
  have O4 := hid (O3.out.trans2 ho4 RW.out)
  clear ho4 hr3
  go_wp2_with fail
  refine (u_lit hr4 0 5 12 (by decide +kernel) (by decide +kernel) (by decide +kernel)).mono ?_
  rintro e w5 ⟨rfl, hr5, ho5⟩
  have O5 := hid (O4.out.trans2 ho5 RW.out)
  clear ho5 hr4
  go_wp2_with fail
  refine (u_lit hr5 15 0 16 (by decide +kernel) (by decide +kernel) (by decide +kernel)).mono ?_
  rintro e w6 ⟨rfl, hr6, ho6⟩
  have O6 := hid (O5.out.trans2 ho6 RW.out)
  clear ho6 hr5
  go_wp2_with fail
  refine (u_lit hr6 0 0 16 (by decide +kernel) (by decide +kernel) (by decide +kernel)).mono ?_
  rintro e w7 ⟨rfl, hr7, ho7⟩
  have O7 := hid (O6.out.trans2 ho7 RW.out)
  clear ho7 hr6
  go_wp2_with fail
  refine (bit_lit hr7 0 5 16 (by decide +kernel) (by decide +kernel) (by decide +kernel)).mono ?_
  rintro e w8 ⟨rfl, hr8, ho8⟩
  have O8 := hid (O7.out.trans2 ho8 RW.out)
  clear ho8 hr7
  go_wp2_with fail
  refine (read_any _ w8 (by decide)).mono ?_
  rintro e w9 ⟨rfl, hr9, ho9⟩
  go_wp2_with fail
  refine (u_range _ 65 w9 (.inr (by omega))).mono ?_
  rintro e w10 ⟨rfl, rfl⟩
  have O9 := hid (O8.out.trans ho9)
  clear ho9 hr9
  go_wp2_with fail
  refine (read_any _ w9 (by decide)).mono ?_
  rintro e w11 ⟨rfl, hr11, ho11⟩
  go_wp2_with fail
  refine (u_range _ (-1) w11 (.inl (by omega))).mono ?_
  rintro e w12 ⟨rfl, rfl⟩
  have O11 := hid (O9.out.trans ho11)
  clear ho11 hr11
  go_wp2_with fail
  refine (write_any w11).mono ?_
  rintro e w12 ⟨rfl, hw12, ho12⟩
  have hcw : w.heap.size ≤ w11.heap.size := O11.out.size
  generalize hcc : w11.heap.size = c at hw12 hcw ⊢
  clear hcc
  have O12 := hid (O11.out.trans ho12)
  clear ho12
  go_wp2_with fail
  refine (put_lit hw12 0 [true] (by decide) (by decide) (by decide +kernel) (by decide +kernel)).mono ?_
  rintro e w13 ⟨rfl, s13, hp13⟩
  go_wp2_with fail
  refine (put_lit hp13.wr 0 [true, false, true, false] (by decide) (by decide) (by decide +kernel) (by decide +kernel)).mono ?_
  rintro e w14 ⟨rfl, s14, hp14⟩
  go_wp2_with fail
  refine (put_lit hp14.wr 2 [true, false, true, false] (by decide) (by decide) (by decide +kernel) (by decide +kernel)).mono ?_
  rintro e w15 ⟨rfl, s15, hp15⟩
  go_wp2_with fail
  refine (put_lit hp15.wr 0 [true, false, true, false, true, true] (by decide) (by decide) (by decide +kernel) (by decide +kernel)).mono ?_
  rintro e w16 ⟨rfl, s16, hp16⟩
  go_wp2_with fail
  refine (put_lit hp16.wr 2 [true, false, true, false, true, true] (by decide) (by decide) (by decide +kernel) (by decide +kernel)).mono ?_
  rintro e w17 ⟨rfl, s17, hp17⟩
  go_wp2_with fail
  refine (put_lit hp17.wr 3 [true, false, true, false, true, true] (by decide) (by decide) (by decide +kernel) (by decide +kernel)).mono ?_
  rintro e w18 ⟨rfl, s18, hp18⟩
  go_wp2_with fail
  refine (put_lit hp18.wr 0 l70 (by decide) (by decide) (by decide +kernel) (by decide +kernel)).mono ?_
  rintro e w19 ⟨rfl, s19, hp19⟩
  have step : ∀ {a b : World} {x y : Value} {l : List Bool}, PutLeft a b c x y l → (Only [] w a ∧ ∀ g, g ∈ ownOf x → w.heap.size ≤ g) → (Only [] w b ∧ ∀ g, g ∈ ownOf y → w.heap.size ≤ g) := fun h k =>
    ⟨k.1.trans2 h.only (fun g hg => .inr (by rcases List.mem_cons.1 hg with e | e; rw [e]; exact hcw; exact k.2 g e)), fun g hg => by rcases h.own g hg with e | e; exact k.2 g e; exact Nat.le_trans k.1.size e⟩
  have O19 := hid (step hp19 (step hp18 (step hp17 (step hp16 (step hp15 (step hp14 (step hp13 ⟨O12.out, by simp [ownOf, Value.ownBlock]⟩)))))))
  have W19 := hid hp19.wr
  clear step hp19 hp18 hp17 hp16 hp15 hp14 hp13 hw12
  go_wp2_with fail
  have TR := two_rows w19 31
  have ox := hid (((O19.out.1).alloc (.cells #[.int .i64 0, .int .i64 0, .int .i64 2, .int .i64 0, .int .i64 2, .int .i64 3, .int .i64 0] 31)).alloc (.cells #[.int .i64 0, .int .i64 0, .int .i64 2, .int .i64 0, .int .i64 2, .int .i64 3, .int .i64 0] 31))
  have WX := hid (W19.out.only (((Only.refl [] w19).alloc (.cells #[.int .i64 0, .int .i64 0, .int .i64 2, .int .i64 0, .int .i64 2, .int .i64 3, .int .i64 0] 31)).alloc (.cells #[.int .i64 0, .int .i64 0, .int .i64 2, .int .i64 0, .int .i64 2, .int .i64 3, .int .i64 0] 31)) (by simp) (by simp))
  generalize World.alloc (World.alloc w19 _) _ = wx at TR ox WX ⊢
  have TR' := hid TR
  clear TR W19 O19
  generalize w19.heap.size = p at *
  go_loopg [17] 7 (fun g i wr => ∃ j : Nat, j + g = 7 ∧ i = .int .i64 j ∧ (∀ j, j < 7 → wr.cell? ⟨p, j, none⟩ = some (.int .i64 (ansL j)) ∧ wr.cell? ⟨p + 1, j, none⟩ = some (.int .i64 (ansL j))) ∧ Wr wr c s19 l70 ∧ Only [] w wr)
  case atStart => exact ⟨0, by omega, rfl, TR'.out, WX.out, ox.out⟩
  case round =>
    obtain ⟨j, hj, rfl, hT, hW, hO⟩ := hrel
    have T := hid hT
    have W := hid hW
    have O := hid hO
    have J := hid hj
    clear hT hW hO
    by_cases hg : gk = 0
    · subst hg
      obtain rfl : j = 7 := by omega
      clear hj
      have LL := hid l70_len
      have LS := l70_size
      have LB := hid l70_bytes
      have PB := hid (fun w h => bits_any c s19 l70 w h)
      generalize hcl : chars l70 = cl at *
      have CL := hid hcl
      clear hcl
      go_wp2_with fail
      refine (len_any c s19 l70 wr W.out).mono ?_
      rw [LL.out]
      rintro e w20 ⟨rfl, n20, rfl⟩
      have W20 := hid (W.out.only ((Only.refl [] wr).drewN n20) (by simp) (by simp))
      have O20 := hid (O.out.drewN n20)
      go_wp2_with fail
      refine (PB.out _ W20.out).mono ?_
      rintro e w21 ⟨rfl, ho21⟩
      have W21 := hid (W20.out.only ho21 (by simp) (by simp))
      have O21 := hid (O20.out.trans ho21)
      clear ho21
      go_wp2_with fail
      refine (PB.out _ W21.out).mono ?_
      rintro e w22 ⟨rfl, ho22⟩
      have W22 := hid (W21.out.only ho22 (by simp) (by simp))
      have O22 := hid (O21.out.trans ho22)
      clear ho22
      have EX : (cl.extract 0 7).toList = [49, 48, 49, 48, 49, 49, 49] := by rw [← CL.out]; decide +kernel
      go_wp2_with fail
      refine (bytes_any c s19 l70 w22 W22.out).mono ?_
      rw [LB.out]
      rintro e w23 ⟨rfl, ho23⟩
      have O23 := hid (O22.out.trans ho23)
      clear ho23
      go_wp2_with fail
      refine (bit_nil w23).mono ?_
      rintro e w24 ⟨rfl, rfl⟩
      go_wp2_with fail
      refine (u_nil 99 w23).mono ?_
      rintro e w24 ⟨rfl, rfl⟩
      go_wp2_with fail
      refine (pos_nil w23).mono ?_
      rintro e w24 ⟨rfl, rfl⟩
      go_wp2_with fail
      refine (left_nil w23).mono ?_
      rintro e w24 ⟨rfl, rfl⟩
      go_wp2_with fail
      refine (copy_nil w23).mono ?_
      rintro e w24 ⟨rfl, rfl⟩
      go_wp2_with fail
      refine (put_nil 99 0 w23).mono ?_
      rintro e w24 ⟨rfl, rfl⟩
      go_wp2_with fail
      refine (len_nil w23).mono ?_
      rintro e w24 ⟨rfl, rfl⟩
      go_wp2_with fail
      refine (bytes_nil w23).mono ?_
      rintro e w24 ⟨rfl, rfl⟩
      go_wp2_with fail
      refine (bits_nil w23).mono ?_
      rintro e w24 ⟨rfl, ho24⟩
      have O24 := hid (O23.out.trans ho24)
      clear ho24
      go_wp2_with fail
      refine (known_any w24).mono ?_
      rintro e w25 ⟨rfl, ho25⟩
      go_wp2_with fail
      go_ret
      exact ⟨rfl, O24.out.trans ho25⟩
    · have i1 : (j : Int) < 7 := by omega
      have hj7 : j < 7 := by omega
      obtain ⟨t1, t2⟩ := T.out j hj7
      clear hj
      go_wp2_with fail
      go_quiet (fail)
      go_wp2_with fail
      go_roundg (gk - 1)
      case measure => omega
      case rel => exact ⟨j + 1, by have := J.out; omega, by go_num, T.out, W.out.only ((Only.refl [] wr).drewN _) (by simp) (by simp), O.out.drewN _⟩

theorem bitsExamples_core (W : World) (base : Nat) : Calls Try.prog 5 #[] W fun e w' => e = .returned (.bool true) ∧ Below W.heap.size W w' :=
  (examples_walk W).mono fun e w' ⟨he, ho⟩ => ⟨he, ho.below (Nat.le_refl _) (by simp)⟩
end Go.Proofs.Ytbbmmpjhpleceaa

/- GolombExamples: the examples of the chapter. -/
import Derived.Test.YtgfcooaobfpdiaaKn2
import Derived.Test.YtgfcooaobfpdiaaGBack
import Derived.Deep.LoopGhost
namespace Go.Proofs.Ytgfcooaobfpdiaa
open Go.RowKit
set_option linter.unusedVariables false

def g1 : Nat → List Bool
  | 0 => []
  | n + 1 => g1 n ++ ueBits n
def sg (j : Nat) : Int := [0, 1, -1, 2, -2].getD j 0
def g2 : Nat → List Bool
  | 0 => g1 4
  | n + 1 => g2 n ++ ueBits (seNum (sg n))
def g3 : List Bool := (wrTe (wrTe (wrTe (wrTe (g2 5) 0 0).2 1 0).2 1 1).2 2 2).2
def kt (j : Nat) : Nat := [0, 3, 4, 13].getD j 0
def g4 : Nat → List Bool
  | 0 => g3
  | n + 1 => g4 n ++ ukBits 2 (kt n)
theorem g1_len (n : Nat) (h : n ≤ 4) : (g1 n).length ≤ 100 := by
  obtain rfl | rfl | rfl | rfl | rfl : n = 0 ∨ n = 1 ∨ n = 2 ∨ n = 3 ∨ n = 4 := by omega
  all_goals decide +kernel
theorem g2_len (n : Nat) (h : n ≤ 5) : (g2 n).length ≤ 100 := by
  obtain rfl | rfl | rfl | rfl | rfl | rfl : n = 0 ∨ n = 1 ∨ n = 2 ∨ n = 3 ∨ n = 4 ∨ n = 5 := by omega
  all_goals decide +kernel
theorem g4_len (n : Nat) (h : n ≤ 4) : (g4 n).length ≤ 100 := by
  obtain rfl | rfl | rfl | rfl | rfl : n = 0 ∨ n = 1 ∨ n = 2 ∨ n = 3 ∨ n = 4 := by omega
  all_goals decide +kernel
theorem g4_chars : chars (g4 4) = ⟨#[49, 48, 49, 48, 48, 49, 49, 48, 48, 49, 48, 48, 49, 48, 49, 48, 48, 49, 49, 48, 48, 49, 48, 48, 48, 48, 49, 48, 49, 49, 48, 48, 49, 49, 49, 48, 48, 49, 49, 49, 48, 49, 48, 48, 48, 48, 48, 49, 48, 48, 48, 49]⟩ := by decide +kernel
theorem sg_ok (j : Nat) (l : List Bool) (h : j < 5) : wrSe l (sg j) = (0, l ++ ueBits (seNum (sg j))) := by
  unfold wrSe
  rw [if_neg]
  obtain rfl | rfl | rfl | rfl | rfl : j = 0 ∨ j = 1 ∨ j = 2 ∨ j = 3 ∨ j = 4 := by omega
  all_goals decide
theorem kt_ok (j : Nat) (h : j < 4) : kt j ≤ 13 := by
  obtain rfl | rfl | rfl | rfl : j = 0 ∨ j = 1 ∨ j = 2 ∨ j = 3 := by omega
  all_goals decide
theorem row_sg (w : World) (t : TypeId) : ∀ j, j < 5 → (w.alloc (.cells #[.int .i64 0, .int .i64 1, .int .i64 (-1), .int .i64 2, .int .i64 (-2)] t)).cell? ⟨w.heap.size, j, none⟩ = some (.int .i64 (sg j)) := by
  intro j hj
  obtain rfl | rfl | rfl | rfl | rfl : j = 0 ∨ j = 1 ∨ j = 2 ∨ j = 3 ∨ j = 4 := by omega
  all_goals simp [sg]
theorem row_zero (w : World) (t : TypeId) : ∀ j, j < 4 → (w.alloc (.cells #[.int .i64 0, .int .i64 0, .int .i64 0, .int .i64 0] t)).cell? ⟨w.heap.size, j, none⟩ = some (.int .i64 0) := by
  intro j hj
  obtain rfl | rfl | rfl | rfl : j = 0 ∨ j = 1 ∨ j = 2 ∨ j = 3 := by omega
  all_goals simp
theorem row_kt (w : World) (t : TypeId) : ∀ j, j < 4 → (w.alloc (.cells #[.int .u64 0, .int .u64 3, .int .u64 4, .int .u64 13] t)).cell? ⟨w.heap.size, j, none⟩ = some (.int .u64 (kt j)) := by
  intro j hj
  obtain rfl | rfl | rfl | rfl : j = 0 ∨ j = 1 ∨ j = 2 ∨ j = 3 := by omega
  all_goals simp [kt]

/-- A row of memory beside a writer. -/
structure Arr (w : World) (c : Nat) (sv : Value) (p n : Nat) (f : Nat → Value) : Prop where
  cell : ∀ j, j < n → w.cell? ⟨p, j, none⟩ = some (f j)
  out : p ∉ c :: ownOf sv
  lt : p < w.heap.size
theorem Arr.put {w w' : World} {c : Nat} {sv sv' : Value} {p n : Nat} {f : Nat → Value} {l : List Bool} (h : Arr w c sv p n f) (k : PutLeft w w' c sv sv' l) : Arr w' c sv' p n f :=
  ⟨fun j hj => k.only.cell (h.cell j hj) h.out, fun e => by
    rcases List.mem_cons.1 e with e | e
    · exact h.out (e ▸ List.mem_cons_self)
    · rcases k.own p e with e | e
      · exact h.out (List.mem_cons_of_mem _ e)
      · exact Nat.not_lt.2 e h.lt, Nat.lt_of_lt_of_le h.lt k.only.size⟩
theorem Arr.new {w0 w wx : World} {c : Nat} {sv : Value} {n : Nat} {f : Nat → Value} {l : List Bool} (m : Mine w0 c w sv l) (h : ∀ j, j < n → wx.cell? ⟨w.heap.size, j, none⟩ = some (f j)) (k : w.heap.size < wx.heap.size) : Arr wx c sv w.heap.size n f :=
  ⟨h, fun e => by
    rcases List.mem_cons.1 e with e | e
    · exact Nat.lt_irrefl _ (e ▸ m.wr.lt)
    · exact Nat.lt_irrefl _ (m.wr.row.lt _ e), k⟩

theorem putse_lit {b : Nat} {sv : Value} {l : List Bool} {v : Int} {w : World} (h : Wr w b sv l) (e : Int) (l' : List Bool) (hsz : l.length + 128 ≤ 281474976710656) (h1 : (wrSe l v).1 = e) (h2 : (wrSe l v).2 = l') :
    Calls Try.prog 28 #[.pointer (some ⟨b, 0, none⟩), .int .i64 v] w fun x w' => x = .returned (.int .i64 e) ∧ ∃ sv', PutLeft w w' b sv sv' l' := by
  subst h1 h2; exact putse_any b sv l v w h hsz
theorem putte_lit {b : Nat} {sv : Value} {l : List Bool} {m v : Int} {w : World} (h : Wr w b sv l) (e : Int) (l' : List Bool) (hsz : l.length + 128 ≤ 281474976710656) (h0 : 0 ≤ m) (h0' : 0 ≤ v) (h1 : (wrTe l m.toNat v.toNat).1 = e) (h2 : (wrTe l m.toNat v.toNat).2 = l') :
    Calls Try.prog 30 #[.pointer (some ⟨b, 0, none⟩), .int .u64 m, .int .u64 v] w fun x w' => x = .returned (.int .i64 e) ∧ ∃ sv', PutLeft w w' b sv sv' l' := by
  subst h1 h2
  obtain ⟨k, rfl⟩ := Int.eq_ofNat_of_zero_le h0
  obtain ⟨j, rfl⟩ := Int.eq_ofNat_of_zero_le h0'
  exact putte_any b sv l k j w h hsz
theorem putuk_lit {b : Nat} {sv : Value} {l : List Bool} {k v : Int} {w : World} (h : Wr w b sv l) (e : Int) (l' : List Bool) (hsz : l.length + 128 ≤ 281474976710656) (h0 : 0 ≤ v) (hv : v < 18446744073709551616) (h1 : (wrUk l k v.toNat).1 = e) (h2 : (wrUk l k v.toNat).2 = l') :
    Calls Try.prog 32 #[.pointer (some ⟨b, 0, none⟩), .int .i64 k, .int .u64 v] w fun x w' => x = .returned (.int .i64 e) ∧ ∃ sv', PutLeft w w' b sv sv' l' := by
  subst h1 h2
  obtain ⟨j, rfl⟩ := Int.eq_ofNat_of_zero_le h0
  exact putuk_any b sv l k j w h (by omega) hsz
theorem te_lit {b : Nat} {s : ByteArray} {pos : Nat} {m : Int} {w : World} (h : Rd w b s pos) (v e : Int) (q : Nat) (h0 : 0 ≤ m) (h1 : ((rdTe s pos m.toNat).1 : Int) = v) (h2 : (rdTe s pos m.toNat).2.1 = e) (h3 : (rdTe s pos m.toNat).2.2 = q) :
    Calls Try.prog 18 #[.pointer (some ⟨b, 0, none⟩), .int .u64 m] w fun x w' => x = .returned (.tuple #[.int .u64 v, .int .i64 e]) ∧ Rd w' b s q ∧ Only [b] w w' := by
  subst h1 h2 h3
  obtain ⟨k, rfl⟩ := Int.eq_ofNat_of_zero_le h0
  exact te_any b s pos k w h

set_option maxRecDepth 100000 in
set_option maxHeartbeats 4000000 in
theorem examples_walk (w : World) : Calls Try.prog 5 #[] w fun e w' => e = .returned (.bool true) ∧ Only [] w w' := by
  go_enter Try.func5, Try.ntmps5
  go_wp2_with fail
  refine (write_any w).mono ?_
  rintro e w1 ⟨rfl, hw1, ho1⟩
  have M1 := hid (show Mine w w.heap.size w1 _ _ from ⟨hw1, by simp [ownOf, Value.ownBlock], Nat.le_refl _, ho1⟩)
  generalize hcc : w.heap.size = c at hw1 M1 ⊢
  clear hw1 ho1 hcc
  go_wp2_with fail
  go_loopg [2] 4 (fun g i wr => ∃ (j : Nat) (sv : Value), j + g = 4 ∧ i = .int .u64 j ∧ Mine w c wr sv (g1 j))
  case atStart => exact ⟨0, _, by omega, rfl, M1.out⟩
  case round =>
    obtain ⟨j, sv, hj, rfl, hM⟩ := hrel
    have M := hid hM
    have J := hid hj
    clear hM M1
    by_cases hg : gk = 0
    · obtain rfl : j = 4 := by omega
      clear hj
      go_wp2_with fail
      have R0 := row_sg wr 2
      have A0 := hid (fun (wx : World) (h : ∀ j, j < 5 → wx.cell? ⟨wr.heap.size, j, none⟩ = some (.int .i64 (sg j))) k => Arr.new (f := fun j => .int .i64 (sg j)) M.out h k)
      have MA := hid (fun o => M.out.keep ((Only.refl [] wr).alloc o))
      generalize hwx : World.alloc wr (.cells #[.int .i64 0, .int .i64 1, .int .i64 (-1), .int .i64 2, .int .i64 (-2)] _) = wx at R0 ⊢
      have R := hid (A0.out wx R0 (by rw [← hwx]; simp))
      clear R0 A0
      have M2 := hid (show Mine w c wx sv (g1 4) from hwx ▸ MA.out _)
      generalize wr.heap.size = p at *
      clear hwx MA M
      go_loopg [4] 5 (fun g i wr => ∃ (j : Nat) (sv : Value), j + g = 5 ∧ i = .int .i64 j ∧ Arr wr c sv p 5 (fun j => .int .i64 (sg j)) ∧ Mine w c wr sv (g2 j))
      case atStart => exact ⟨0, _, by omega, rfl, R.out, M2.out⟩
      case round =>
        obtain ⟨j, sv, hj, rfl, hR, hM⟩ := hrel
        have M := hid hM
        have J := hid hj
        have R := hid hR
        clear hM hR M2
        by_cases hg : gk = 0
        · obtain rfl : j = 5 := by omega
          clear hj
          go_wp2_with fail
          refine (putte_lit M.out.wr 0 (wrTe (g2 5) 0 0).2 (by decide +kernel) (by decide) (by decide) (by decide +kernel) rfl).mono ?_
          rintro e w1 ⟨rfl, sv1, hp1⟩
          have M1 := hid (M.out.put hp1)
          clear hp1
          go_wp2_with fail
          refine (putte_lit M1.out.wr 0 (wrTe (wrTe (g2 5) 0 0).2 1 0).2 (by decide +kernel) (by decide) (by decide) (by decide +kernel) rfl).mono ?_
          rintro e w2 ⟨rfl, sv2, hp2⟩
          have M2 := hid (M1.out.put hp2)
          clear hp2
          go_wp2_with fail
          refine (putte_lit M2.out.wr 0 (wrTe (wrTe (wrTe (g2 5) 0 0).2 1 0).2 1 1).2 (by decide +kernel) (by decide) (by decide) (by decide +kernel) rfl).mono ?_
          rintro e w3 ⟨rfl, sv3, hp3⟩
          have M3 := hid (M2.out.put hp3)
          clear hp3
          go_wp2_with fail
          refine (putte_lit M3.out.wr 0 g3 (by decide +kernel) (by decide) (by decide) (by decide +kernel) rfl).mono ?_
          rintro e w4 ⟨rfl, sv4, hp4⟩
          have M4' := hid (M3.out.put hp4)
          clear hp4 M3 M2 M1 M R
          go_wp2_with fail
          have R0 := row_zero w4 29
          have A0 := hid (fun (wx : World) (h : ∀ j, j < 4 → wx.cell? ⟨w4.heap.size, j, none⟩ = some (.int .i64 0)) k => Arr.new (f := fun _ => .int .i64 0) M4'.out h k)
          have MA := hid (fun o => M4'.out.keep ((Only.refl [] w4).alloc o))
          generalize hwx : World.alloc w4 (.cells #[.int .i64 0, .int .i64 0, .int .i64 0, .int .i64 0] _) = wx at R0 ⊢
          have R2 := hid (A0.out wx R0 (by rw [← hwx]; simp))
          clear R0 A0
          have M4 := hid (show Mine w c wx sv4 g3 from hwx ▸ MA.out _)
          generalize w4.heap.size = p2 at *
          clear hwx MA M4'
          go_loopg [6] 4 (fun g i wr => ∃ (j : Nat), j + g = 4 ∧ i = .int .i64 j ∧ Arr wr c sv4 p2 4 (fun _ => .int .i64 0) ∧ Mine w c wr sv4 g3)
          case atStart => exact ⟨0, by omega, rfl, R2.out, M4.out⟩
          case round =>
            obtain ⟨j, hj, rfl, hR, hM⟩ := hrel
            have M := hid hM
            have J := hid hj
            have R := hid hR
            clear hM hR
            by_cases hg : gk = 0
            · obtain rfl : j = 4 := by omega
              clear hj
              go_wp2_with fail
              have R0 := row_kt wr 28
              have A0 := hid (fun (wx : World) (h : ∀ j, j < 4 → wx.cell? ⟨wr.heap.size, j, none⟩ = some (.int .u64 (kt j))) k => Arr.new (f := fun j => .int .u64 (kt j)) M.out h k)
              have MA := hid (fun o => M.out.keep ((Only.refl [] wr).alloc o))
              generalize hwx : World.alloc wr (.cells #[.int .u64 0, .int .u64 3, .int .u64 4, .int .u64 13] _) = wx at R0 ⊢
              have R3 := hid (A0.out wx R0 (by rw [← hwx]; simp))
              clear R0 A0
              have M5 := hid (show Mine w c wx sv4 (g4 0) from hwx ▸ MA.out _)
              generalize wr.heap.size = p3 at *
              clear hwx MA M R
              go_loopg [8] 4 (fun g i wr => ∃ (j : Nat) (sv : Value), j + g = 4 ∧ i = .int .i64 j ∧ Arr wr c sv p3 4 (fun j => .int .u64 (kt j)) ∧ Mine w c wr sv (g4 j))
              case atStart => exact ⟨0, _, by omega, rfl, R3.out, M5.out⟩
              case round =>
                obtain ⟨j, sv, hj, rfl, hR, hM⟩ := hrel
                have M := hid hM
                have J := hid hj
                have R := hid hR
                clear hM hR M5 R3
                by_cases hg : gk = 0
                · obtain rfl : j = 4 := by omega
                  clear hj
                  go_wp2_with fail
                  have HC := g4_chars
                  have BT := hid (bits_any c sv (g4 4) wr M.out.wr)
                  rw [HC] at BT
                  have GL := g4_len 4 (by omega)
                  have GL2 : (g4 4).length + 128 ≤ 281474976710656 := by omega
                  generalize g4 4 = L at *
                  have HL := hid GL2
                  clear HC GL GL2
                  refine BT.out.mono ?_
                  rintro e w3 ⟨rfl, ho3⟩
                  have M3 := hid (M.out.keep ho3)
                  clear ho3
                  go_wp2_with fail
                  refine (putue_lit M3.out.wr 3 L HL.out (by decide) (by decide) (by unfold wrUe; rw [if_pos (by decide)]) (by unfold wrUe; rw [if_pos (by decide)])).mono ?_
                  rintro e w4 ⟨rfl, sv4, hp4⟩
                  have M4 := hid (M3.out.put hp4)
                  clear hp4
                  go_wp2_with fail
                  refine (putse_lit M4.out.wr 3 L HL.out (by unfold wrSe; rw [if_pos (by decide)]) (by unfold wrSe; rw [if_pos (by decide)])).mono ?_
                  rintro e w5 ⟨rfl, sv5, hp5⟩
                  have M5 := hid (M4.out.put hp5)
                  clear hp5
                  go_wp2_with fail
                  refine (putse_lit M5.out.wr 3 L HL.out (by unfold wrSe; rw [if_pos (by decide)]) (by unfold wrSe; rw [if_pos (by decide)])).mono ?_
                  rintro e w6 ⟨rfl, sv6, hp6⟩
                  have M6 := hid (M5.out.put hp6)
                  clear hp6
                  go_wp2_with fail
                  refine (putte_lit M6.out.wr 3 L HL.out (by decide) (by decide) (by unfold wrTe; rw [if_pos (by decide)]) (by unfold wrTe; rw [if_pos (by decide)])).mono ?_
                  rintro e w7 ⟨rfl, sv7, hp7⟩
                  have M7 := hid (M6.out.put hp7)
                  clear hp7
                  go_wp2_with fail
                  refine (putte_lit M7.out.wr 3 L HL.out (by decide) (by decide) (by unfold wrTe; rw [if_pos (by decide)]) (by unfold wrTe; rw [if_pos (by decide)])).mono ?_
                  rintro e w8 ⟨rfl, sv8, hp8⟩
                  have M8 := hid (M7.out.put hp8)
                  clear hp8
                  go_wp2_with fail
                  refine (putuk_lit M8.out.wr 3 L HL.out (by decide) (by decide) (by unfold wrUk; rw [if_pos (by decide)]) (by unfold wrUk; rw [if_pos (by decide)])).mono ?_
                  rintro e w9 ⟨rfl, sv9, hp9⟩
                  have M9 := hid (M8.out.put hp9)
                  clear hp9
                  go_wp2_with fail
                  refine (putuk_lit M9.out.wr 3 L HL.out (by decide) (by decide) (by unfold wrUk; rw [if_pos (by decide)]) (by unfold wrUk; rw [if_pos (by decide)])).mono ?_
                  rintro e w10 ⟨rfl, sv10, hp10⟩
                  have O10 := hid (M9.out.put hp10).only
                  clear hp10
                  go_wp2_with fail
                  refine (read_any _ w10 (by decide)).mono ?_
                  rintro e w11 ⟨rfl, hr11, ho11⟩
                  have O11 := hid (O10.out.trans ho11)
                  have hb11 : w.heap.size ≤ w10.heap.size := O10.out.size
                  generalize w10.heap.size = r11 at *
                  clear ho11
                  go_wp2_with fail
                  refine (ue_lit hr11 0 4 0 (by decide +kernel) (by decide +kernel) (by decide +kernel)).mono ?_
                  rintro e w12 ⟨rfl, _, ho12⟩
                  have O12 := hid (O11.out.trans2 ho12 (fun x hx => .inr (by rw [List.mem_singleton.1 hx]; exact hb11)))
                  clear ho12 hr11
                  go_wp2_with fail
                  refine (read_any _ w12 (by decide)).mono ?_
                  rintro e w13 ⟨rfl, hr13, ho13⟩
                  have O13 := hid (O12.out.trans ho13)
                  have hb13 : w.heap.size ≤ w12.heap.size := O12.out.size
                  generalize w12.heap.size = r13 at *
                  clear ho13
                  go_wp2_with fail
                  refine (ue_lit hr13 4294967294 0 63 (by decide +kernel) (by decide +kernel) (by decide +kernel)).mono ?_
                  rintro e w14 ⟨rfl, _, ho14⟩
                  have O14 := hid (O13.out.trans2 ho14 (fun x hx => .inr (by rw [List.mem_singleton.1 hx]; exact hb13)))
                  clear ho14 hr13
                  go_wp2_with fail
                  refine (read_any _ w14 (by decide)).mono ?_
                  rintro e w15 ⟨rfl, hr15, ho15⟩
                  have O15 := hid (O14.out.trans ho15)
                  have hb15 : w.heap.size ≤ w14.heap.size := O14.out.size
                  generalize w14.heap.size = r15 at *
                  clear ho15
                  go_wp2_with fail
                  refine (ue_lit hr15 0 5 0 (by decide +kernel) (by decide +kernel) (by decide +kernel)).mono ?_
                  rintro e w16 ⟨rfl, _, ho16⟩
                  have O16 := hid (O15.out.trans2 ho16 (fun x hx => .inr (by rw [List.mem_singleton.1 hx]; exact hb15)))
                  clear ho16 hr15
                  go_wp2_with fail
                  refine (read_any _ w16 (by decide)).mono ?_
                  rintro e w17 ⟨rfl, hr17, ho17⟩
                  have O17 := hid (O16.out.trans ho17)
                  have hb17 : w.heap.size ≤ w16.heap.size := O16.out.size
                  generalize w16.heap.size = r17 at *
                  clear ho17
                  go_wp2_with fail
                  refine (te_lit hr17 3 0 5 (by decide) (by decide +kernel) (by decide +kernel) (by decide +kernel)).mono ?_
                  rintro e w18 ⟨rfl, _, ho18⟩
                  have O18 := hid (O17.out.trans2 ho18 (fun x hx => .inr (by rw [List.mem_singleton.1 hx]; exact hb17)))
                  clear ho18 hr17
                  go_wp2_with fail
                  refine (ue_nil _).mono ?_
                  rintro e w19 ⟨rfl, rfl⟩
                  go_wp2_with fail
                  refine (se_nil _).mono ?_
                  rintro e w19 ⟨rfl, rfl⟩
                  go_wp2_with fail
                  refine (te_nil _ _).mono ?_
                  rintro e w19 ⟨rfl, rfl⟩
                  go_wp2_with fail
                  refine (uk_nil _ _).mono ?_
                  rintro e w19 ⟨rfl, rfl⟩
                  go_wp2_with fail
                  refine (putue_nil _ _).mono ?_
                  rintro e w19 ⟨rfl, rfl⟩
                  go_wp2_with fail
                  refine (putse_nil _ _).mono ?_
                  rintro e w19 ⟨rfl, rfl⟩
                  go_wp2_with fail
                  refine (putte_nil _ _ _).mono ?_
                  rintro e w19 ⟨rfl, rfl⟩
                  go_wp2_with fail
                  refine (putuk_nil _ _ _).mono ?_
                  rintro e w19 ⟨rfl, rfl⟩
                  go_wp2_with fail
                  refine (known_any w18).mono ?_
                  rintro e w19 ⟨rfl, ho19⟩
                  go_wp2_with fail
                  go_ret
                  exact ⟨rfl, O18.out.trans ho19⟩
                · have i1 : (j : Int) < 4 := by omega
                  have hj4 : j < 4 := by omega
                  have x0 := R.out.cell j hj4
                  have P := hid (fun w h => putuk_yes c sv (g4 j) 2 (kt j) w h (by omega) (by have := kt_ok j hj4; omega) (by have := kt_ok j hj4; have : kt j / 2 ^ 2 ≤ kt j := Nat.div_le_self _ _; omega) (by have := g4_len j (by omega); omega))
                  rw [show g4 j ++ ukBits 2 (kt j) = g4 (j + 1) from rfl] at P
                  generalize kt j = kj at x0 P ⊢
                  clear hj
                  go_wp2_with fail
                  refine (P.out wr M.out.wr).mono ?_
                  rintro e w3 ⟨rfl, sv3, hp3⟩
                  have M3 := hid (M.out.put hp3)
                  have R3 := hid (R.out.put hp3)
                  clear hp3
                  go_wp2_with fail
                  go_roundg (gk - 1)
                  case measure => omega
                  case rel => exact ⟨j + 1, sv3, by have := J.out; omega, by go_num, R3.out, M3.out⟩
            · have i1 : (j : Int) < 4 := by omega
              have hj4 : j < 4 := by omega
              have x0 := R.out.cell j hj4
              clear hj
              go_wp2_with fail
              go_roundg (gk - 1)
              case measure => omega
              case rel => exact ⟨j + 1, by have := J.out; omega, by go_num, R.out, M.out⟩
        · have i1 : (j : Int) < 5 := by omega
          have hj5 : j < 5 := by omega
          have x0 := R.out.cell j hj5
          have P := hid (fun w h => putse_any c sv (g2 j) (sg j) w h (by have := g2_len j (by omega); omega))
          rw [sg_ok j _ hj5, show g2 j ++ ueBits (seNum (sg j)) = g2 (j + 1) from rfl] at P
          generalize sg j = sj at x0 P ⊢
          clear hj
          go_wp2_with fail
          refine (P.out wr M.out.wr).mono ?_
          rintro e w3 ⟨rfl, sv3, hp3⟩
          have M3 := hid (M.out.put hp3)
          have R3 := hid (R.out.put hp3)
          clear hp3
          go_wp2_with fail
          go_roundg (gk - 1)
          case measure => omega
          case rel => exact ⟨j + 1, sv3, by have := J.out; omega, by go_num, R3.out, M3.out⟩
    · have i1 : (j : Int) < 4 := by omega
      have hj4 : j < 4 := by omega
      have P := hid (fun w h => putue_any c sv (g1 j) j w h (by omega) (by have := g1_len j (by omega); omega))
      rw [show wrUe (g1 j) j = (0, g1 (j + 1)) from by unfold wrUe; rw [if_neg (by omega)]; rfl] at P
      clear hj
      go_wp2_with fail
      refine (P.out wr M.out.wr).mono ?_
      rintro e w3 ⟨rfl, sv3, hp3⟩
      have M3 := hid (M.out.put hp3)
      clear hp3
      go_wp2_with fail
      go_roundg (gk - 1)
      case measure => omega
      case rel => exact ⟨j + 1, sv3, by have := J.out; omega, by go_num, M3.out⟩

theorem golombExamples_core (W : World) (base : Nat) : Calls Try.prog 5 #[] W fun e w' => e = .returned (.bool true) ∧ Below W.heap.size W w' :=
  (examples_walk W).mono fun e w' ⟨he, ho⟩ => ⟨he, ho.below (Nat.le_refl _) (by simp)⟩
end Go.Proofs.Ytgfcooaobfpdiaa

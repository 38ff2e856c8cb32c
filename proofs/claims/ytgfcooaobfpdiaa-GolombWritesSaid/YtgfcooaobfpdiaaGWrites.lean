/- GolombWrites: numbers are written as by the reference, call by call. -/
import Derived.Test.YtgfcooaobfpdiaaKn2
import Derived.Test.YtgfcooaobfpdiaaRw
import Derived.Test.YtgfcooaobfpdiaaCalls4
import Derived.Deep.RegionHeld3
import Derived.Deep.DeepCutAuto
import Derived.Deep.LoopGhost
namespace Go.Proofs.Ytgfcooaobfpdiaa
open Go.RowKit
set_option linter.unusedVariables false

/-- A writer of the program and one of the reference, in one world. -/
structure Two (w0 : World) (c q : Nat) (w : World) (sv sq : Value) (l m : List Bool) : Prop where
  wr : Wr w c sv l
  rw : RWr w q sq m
  ow : ∀ g, g ∈ ownOf sv → w0.heap.size ≤ g ∧ g ≠ q ∧ g ∉ ownOf sq
  oq : ∀ g, g ∈ ownOf sq → w0.heap.size ≤ g ∧ g ≠ c
  ne : c ≠ q
  hc : w0.heap.size ≤ c
  hq : w0.heap.size ≤ q
  only : Only [] w0 w

variable {w0 : World} {c q : Nat} {w w' : World} {sv sq : Value} {l m : List Bool}
theorem Two.keep (h : Two w0 c q w sv sq l m) (k : Only [] w w') : Two w0 c q w' sv sq l m :=
  ⟨h.wr.only k (by simp) (by simp), h.rw.only k (by simp) (by simp), h.ow, h.oq, h.ne, h.hc, h.hq, h.only.trans k⟩
theorem Two.put (h : Two w0 c q w sv sq l m) {sv' : Value} {l' : List Bool} (p : PutLeft w w' c sv sv' l') : Two w0 c q w' sv' sq l' m :=
  ⟨p.wr, h.rw.only p.only (fun e => by rcases List.mem_cons.1 e with e | e; exact h.ne e.symm; exact (h.ow q e).2.1 rfl) (fun g hg e => by rcases List.mem_cons.1 e with e | e; exact (h.oq g hg).2 e; exact (h.ow g e).2.2 hg),
    fun g hg => by
      rcases p.own g hg with e | e
      · exact h.ow g e
      · exact ⟨Nat.le_trans h.only.size e, fun e2 => Nat.not_lt.2 (e2 ▸ e) h.rw.lt, fun e2 => Nat.not_lt.2 e (h.rw.row.lt g e2)⟩,
    h.oq, h.ne, h.hc, h.hq, h.only.trans2 p.only (fun x hx => .inr (by rcases List.mem_cons.1 hx with e | e; rw [e]; exact h.hc; exact (h.ow x e).1))⟩
theorem Two.rput (h : Two w0 c q w sv sq l m) {sq' : Value} {m' : List Bool} (p : RPut w w' q sq sq' m') : Two w0 c q w' sv sq' l m' :=
  ⟨h.wr.only p.only (fun e => by rcases List.mem_cons.1 e with e | e; exact h.ne e; exact (h.oq c e).2 rfl) (fun g hg e => by rcases List.mem_cons.1 e with e | e; exact (h.ow g hg).2.1 e; exact (h.ow g hg).2.2 e), p.wr,
    fun g hg => ⟨(h.ow g hg).1, (h.ow g hg).2.1, fun e => by
      rcases p.own g e with e2 | e2
      · exact (h.ow g hg).2.2 e2
      · exact Nat.not_lt.2 e2 (h.wr.row.lt g hg)⟩,
    fun g hg => by
      rcases p.own g hg with e | e
      · exact h.oq g e
      · exact ⟨Nat.le_trans h.only.size e, fun e2 => Nat.not_lt.2 (e2 ▸ e) h.wr.lt⟩,
    h.ne, h.hc, h.hq, h.only.trans2 p.only (fun x hx => .inr (by rcases List.mem_cons.1 hx with e | e; rw [e]; exact h.hq; exact (h.oq x e).1))⟩

theorem wrUe_len (l : List Bool) (v : Nat) : (wrUe l v).2.length ≤ l.length + 71 := by
  unfold wrUe
  split
  · simp
  · have := ueBits_le v (by omega); simp; omega
theorem wrSe_len (l : List Bool) (v : Int) : (wrSe l v).2.length ≤ l.length + 71 := by
  unfold wrSe
  split
  · simp
  · have := ueBits_le (seNum v) (by unfold seNum; split <;> omega); simp; omega
theorem wrTe_len (l : List Bool) (m v : Nat) : (wrTe l m v).2.length ≤ l.length + 71 := by
  unfold wrTe
  split
  · simp
  · split
    · simp
    · split
      · simp
      · have := ueBits_le v (by omega); simp; omega
theorem wrUk_len (l : List Bool) (k : Int) (v : Nat) : (wrUk l k v).2.length ≤ l.length + 71 := by
  unfold wrUk
  split
  · simp
  · rename_i h
    have := ukBits_le k.toNat v (by omega) (by generalize v / 2 ^ k.toNat = x at *; omega)
    simp; omega

set_option maxRecDepth 100000 in
set_option maxHeartbeats 6000000 in
theorem writes_walk (a : Option Addr) (len cap : Nat) (f : Nat → Int × Int × Int × Int) (w : World) (hlc : len ≤ cap) (hcm : cap ≤ maxLen) (hc : CallsAt w a len f) :
    Calls Try.prog 4 #[.slice a len cap] w fun e w' => e = .returned (.bool true) ∧ Only [] w w' := by
  unfold maxLen at hcm
  by_cases h0 : 60 < len
  · have h0' : (60 : Int) < (len : Int) := by omega
    clear hc
    go_enter Try.func4, Try.ntmps4
    go_wp2_with (go_at_call 11; refine (known_any _).mono ?_; rintro e w1 ⟨rfl, ho1⟩)
    go_ret
    exact ⟨rfl, ho1⟩
  · have h2 : (len : Int) ≤ 60 := by omega
    have h2' : len ≤ 60 := by omega
    have C0 := hid hc
    clear h0 hc
    go_enter Try.func4, Try.ntmps4
    go_wp2_with fail
    refine (write_any w).mono ?_
    rintro e w1 ⟨rfl, hw1, ho1⟩
    go_wp2_with fail
    refine (rwrite_any w1).mono ?_
    rintro e w2 ⟨rfl, hq2, ho2⟩
    have hlt := hw1.lt
    obtain ⟨c, hcc⟩ : ∃ c, c = w.heap.size := ⟨_, rfl⟩
    obtain ⟨q, hqq⟩ : ∃ q, q = w1.heap.size := ⟨_, rfl⟩
    rw [← hcc] at hw1 hlt ⊢
    rw [← hqq] at hq2 hlt ⊢
    have T0 := hid (show Two w c q w2 (.slice none 0 0) (.slice none 0 0) [] [] from ⟨hw1.only ho2 (by simp) (by simp), hq2, by simp [ownOf, Value.ownBlock], by simp [ownOf, Value.ownBlock], by omega, by omega, by omega, ho1.trans ho2⟩)
    clear hw1 hq2 ho1 ho2 hcc hqq hlt
    go_wp2_with fail
    go_loopg [5] len (fun g i wr => ∃ (j : Nat) (sv sq : Value) (l : List Bool), j + g = len ∧ i = .int .i64 j ∧ l.length ≤ 71 * j ∧ Two w c q wr sv sq l l)
    case atStart => exact ⟨0, _, _, [], by omega, rfl, by simp, T0.out⟩
    case round =>
      obtain ⟨j, sv, sq, l, hj, rfl, hll, hT⟩ := hrel
      have T := hid hT
      have J := hid hj
      clear hT
      by_cases hg : gk = 0
      · have i1 : ¬ (j : Int) < (len : Int) := by omega
        have hl4 : l.length ≤ 4260 := by omega
        clear hj
        go_wp2_with fail
        refine (bits_any c sv l wr T.out.wr).mono ?_
        rintro e w3 ⟨rfl, ho3⟩
        have T3 := hid (T.out.keep ho3)
        clear ho3
        go_wp2_with fail
        refine (rbits_any q sq l w3 T3.out.rw).mono ?_
        rintro e w4 ⟨rfl, rfl⟩
        go_wp2_with fail
        refine (known_any w3).mono ?_
        rintro e w6 ⟨rfl, ho6⟩
        go_wp2_with fail
        go_ret
        exact ⟨rfl, T3.out.only.trans ho6⟩
      · have i1 : (j : Int) < (len : Int) := by omega
        have hjl : j < len := by omega
        clear hj
        rcases C0.out with hz | ⟨b, o, rfl, hall⟩
        · omega
        obtain ⟨_, ⟨b3, b4⟩, _, ⟨b7, b8⟩⟩ := (hall j hjl).2
        have X := hid (fun w' (k : Only [] w w') => (C0.out.at k hjl).all)
        clear hall
        generalize (f j).1 = x at *
        generalize (f j).2.1 = mo at *
        generalize (f j).2.2.1 = kk at *
        generalize (f j).2.2.2 = vv at *
        obtain ⟨v, rfl⟩ := Int.eq_ofNat_of_zero_le b7
        obtain ⟨most, rfl⟩ := Int.eq_ofNat_of_zero_le b3
        have hv64 : v < 18446744073709551616 := by omega
        obtain ⟨x0, x1, x2, x3⟩ := X.out wr T.out.only
        clear b4 b8
        have LN := hid (fun c sv l w h => len_any c sv l w h)
        by_cases c0 : x % 4 = 0
        · have c0' : (x % 4 == 0) = true := by simp [c0]
          have hwl := wrUe_len l v
          have P1 := hid (fun w h => putue_any c sv l v w h hv64 (by omega))
          have P2 := hid (fun w h => rputue_any q sq l v w h (by omega))
          generalize wrUe l v = r at *
          obtain ⟨er, l'⟩ := r
          clear c0 hv64
          go_wp2_with fail
          have TD := hid (T.out.keep ((Only.refl [] wr).drew))
          have d3 : wr.drew.cell? ⟨b, o + j * 4 + 3, none⟩ = some (.int .u64 (v : Int)) := x3
          go_region_held3 (fun w' => w'.cell? ⟨b, o + j * 4 + 3, none⟩ = some (.int .u64 (v : Int))) (first | exact x3 | exact d3 | exact z3 | exact y3 | go_keep)
            (first
              | (go_at_call 26; refine (P1.out _ (by first | exact TD.out.wr | exact T.out.wr)).mono ?_; rintro e w3 ⟨rfl, sv3, hp3⟩; have T3 := hid (TD.out.put hp3); obtain ⟨_, y1, y2, y3⟩ := X.out w3 T3.out.only; clear hp3)
              | (go_at_call 27; refine (P2.out _ T3.out.rw).mono ?_; rintro e w4 ⟨rfl, sq4, hp4⟩; have T4 := hid (T3.out.rput hp4); obtain ⟨_, z1, z2, z3⟩ := X.out w4 T4.out.only; clear hp4))
          clear x0 x1 x2 x3 y1 y2 y3 z1 z2 z3
          go_wp2_with fail
          refine (LN.out c _ _ _ T4.out.wr).mono ?_
          rintro e w5 ⟨rfl, n5, rfl⟩
          have T5 := hid (T4.out.keep ((Only.refl [] w4).drewN n5))
          go_wp2_with fail
          refine (rlen_any q sq4 l' _ T5.out.rw).mono ?_
          rintro e w6 ⟨rfl, rfl⟩
          go_wp2_with fail
          go_roundg (gk - 1)
          case measure => omega
          case rel => exact ⟨j + 1, sv3, sq4, l', by have := J.out; omega, by go_num, by omega, T5.out⟩
        have c0' : (x % 4 == 0) = false := by rw [beq_eq_false_iff_ne]; exact c0
        by_cases c1 : x % 4 = 1
        · have c1' : (x % 4 == 1) = true := by simp [c1]
          obtain ⟨vi, hvi⟩ : ∃ vi : Int, vi = IntKind.i64.wrap (v : Int) := ⟨_, rfl⟩
          have hwl := wrSe_len l vi
          have P1 := hid (fun w h => putse_any c sv l vi w h (by omega))
          have P2 := hid (fun w h => rputse_any q sq l vi w h (by omega))
          generalize wrSe l vi = r at *
          obtain ⟨er, l'⟩ := r
          clear c0 c1 hv64
          have hvi' := hvi.symm
          clear hvi
          go_wp2_with fail
          have TD := hid (T.out.keep ((Only.refl [] wr).drew))
          have d3 : wr.drew.cell? ⟨b, o + j * 4 + 3, none⟩ = some (.int .u64 (v : Int)) := x3
          go_region_held3 (fun w' => w'.cell? ⟨b, o + j * 4 + 3, none⟩ = some (.int .u64 (v : Int))) (first | exact x3 | exact d3 | exact z3 | exact y3 | go_keep)
            (first
              | (go_at_call 28; refine (P1.out _ (by first | exact TD.out.wr | exact T.out.wr)).mono ?_; rintro e w3 ⟨rfl, sv3, hp3⟩; have T3 := hid (TD.out.put hp3); obtain ⟨_, y1, y2, y3⟩ := X.out w3 T3.out.only; clear hp3)
              | (go_at_call 29; refine (P2.out _ T3.out.rw).mono ?_; rintro e w4 ⟨rfl, sq4, hp4⟩; have T4 := hid (T3.out.rput hp4); obtain ⟨_, z1, z2, z3⟩ := X.out w4 T4.out.only; clear hp4))
          clear x0 x1 x2 x3 y1 y2 y3 z1 z2 z3
          go_wp2_with fail
          refine (LN.out c _ _ _ T4.out.wr).mono ?_
          rintro e w5 ⟨rfl, n5, rfl⟩
          have T5 := hid (T4.out.keep ((Only.refl [] w4).drewN n5))
          go_wp2_with fail
          refine (rlen_any q sq4 l' _ T5.out.rw).mono ?_
          rintro e w6 ⟨rfl, rfl⟩
          go_wp2_with fail
          go_roundg (gk - 1)
          case measure => omega
          case rel => exact ⟨j + 1, sv3, sq4, l', by have := J.out; omega, by go_num, by omega, T5.out⟩
        have c1' : (x % 4 == 1) = false := by rw [beq_eq_false_iff_ne]; exact c1
        by_cases c2 : x % 4 = 2
        · have c2' : (x % 4 == 2) = true := by simp [c2]
          have hwl := wrTe_len l most v
          have P1 := hid (fun w h => putte_any c sv l most v w h (by omega))
          have P2 := hid (fun w h => rputte_any q sq l most v w h (by omega))
          generalize wrTe l most v = r at *
          obtain ⟨er, l'⟩ := r
          clear c0 c1 c2 hv64
          go_wp2_with fail
          have TD := hid (T.out.keep ((Only.refl [] wr).drew))
          have d13 : wr.drew.cell? ⟨b, o + j * 4 + 1, none⟩ = some (.int .u64 (most : Int)) ∧ wr.drew.cell? ⟨b, o + j * 4 + 3, none⟩ = some (.int .u64 (v : Int)) := ⟨x1, x3⟩
          go_region_held3 (fun w' => w'.cell? ⟨b, o + j * 4 + 1, none⟩ = some (.int .u64 (most : Int)) ∧ w'.cell? ⟨b, o + j * 4 + 3, none⟩ = some (.int .u64 (v : Int))) (first | exact ⟨x1, x3⟩ | exact d13 | exact ⟨z1, z3⟩ | exact ⟨y1, y3⟩ | go_keep)
            (first
              | (go_at_call 30; refine (P1.out _ (by first | exact TD.out.wr | exact T.out.wr)).mono ?_; rintro e w3 ⟨rfl, sv3, hp3⟩; have T3 := hid (TD.out.put hp3); obtain ⟨_, y1, y2, y3⟩ := X.out w3 T3.out.only; clear hp3)
              | (go_at_call 31; refine (P2.out _ T3.out.rw).mono ?_; rintro e w4 ⟨rfl, sq4, hp4⟩; have T4 := hid (T3.out.rput hp4); obtain ⟨_, z1, z2, z3⟩ := X.out w4 T4.out.only; clear hp4))
          clear x0 x1 x2 x3 y1 y2 y3 z1 z2 z3
          go_wp2_with fail
          refine (LN.out c _ _ _ T4.out.wr).mono ?_
          rintro e w5 ⟨rfl, n5, rfl⟩
          have T5 := hid (T4.out.keep ((Only.refl [] w4).drewN n5))
          go_wp2_with fail
          refine (rlen_any q sq4 l' _ T5.out.rw).mono ?_
          rintro e w6 ⟨rfl, rfl⟩
          go_wp2_with fail
          go_roundg (gk - 1)
          case measure => omega
          case rel => exact ⟨j + 1, sv3, sq4, l', by have := J.out; omega, by go_num, by omega, T5.out⟩
        · have c2' : (x % 4 == 2) = false := by rw [beq_eq_false_iff_ne]; exact c2
          have hwl := wrUk_len l kk v
          have P1 := hid (fun w h => putuk_any c sv l kk v w h hv64 (by omega))
          have P2 := hid (fun w h => rputuk_any q sq l kk v w h hv64 (by omega))
          generalize wrUk l kk v = r at *
          obtain ⟨er, l'⟩ := r
          clear c0 c1 c2 hv64
          go_wp2_with fail
          have TD := hid (T.out.keep ((Only.refl [] wr).drew))
          have d23 : wr.drew.cell? ⟨b, o + j * 4 + 2, none⟩ = some (.int .i64 kk) ∧ wr.drew.cell? ⟨b, o + j * 4 + 3, none⟩ = some (.int .u64 (v : Int)) := ⟨x2, x3⟩
          go_region_held3 (fun w' => w'.cell? ⟨b, o + j * 4 + 2, none⟩ = some (.int .i64 kk) ∧ w'.cell? ⟨b, o + j * 4 + 3, none⟩ = some (.int .u64 (v : Int))) (first | exact ⟨x2, x3⟩ | exact d23 | exact ⟨z2, z3⟩ | exact ⟨y2, y3⟩ | go_keep)
            (first
              | (go_at_call 32; refine (P1.out _ (by first | exact TD.out.wr | exact T.out.wr)).mono ?_; rintro e w3 ⟨rfl, sv3, hp3⟩; have T3 := hid (TD.out.put hp3); obtain ⟨_, y1, y2, y3⟩ := X.out w3 T3.out.only; clear hp3)
              | (go_at_call 33; refine (P2.out _ T3.out.rw).mono ?_; rintro e w4 ⟨rfl, sq4, hp4⟩; have T4 := hid (T3.out.rput hp4); obtain ⟨_, z1, z2, z3⟩ := X.out w4 T4.out.only; clear hp4))
          clear x0 x1 x2 x3 y1 y2 y3 z1 z2 z3
          go_wp2_with fail
          refine (LN.out c _ _ _ T4.out.wr).mono ?_
          rintro e w5 ⟨rfl, n5, rfl⟩
          have T5 := hid (T4.out.keep ((Only.refl [] w4).drewN n5))
          go_wp2_with fail
          refine (rlen_any q sq4 l' _ T5.out.rw).mono ?_
          rintro e w6 ⟨rfl, rfl⟩
          go_wp2_with fail
          go_roundg (gk - 1)
          case measure => omega
          case rel => exact ⟨j + 1, sv3, sq4, l', by have := J.out; omega, by go_num, by omega, T5.out⟩

open Go.ChangeShapes Go.WideShapes Go.ChangeAt
theorem golombWrites_core {H : Type} {enc : TypeId × Value → H} (W : World) (base : Nat)
    (v0 : Value) (d0 : DataW H) (p0 : List MemPlace) (k0 : Value.okWide Try.prog W .any base 22 v0) (h0 : DataW.Trod enc Try.prog W 0 (fun _ => true) true 22 v0 d0 p0) :
    Calls Try.prog 4 #[v0] W fun e w' => e = .returned (.bool true) ∧ Below W.heap.size W w' := by
  obtain ⟨a, len, cap, f, rfl, hlc, hcm, hc⟩ := open_calls k0 h0
  exact (writes_walk a len cap f W hlc hcm hc).mono fun e w' ⟨he, ho⟩ => ⟨he, ho.below (Nat.le_refl _) (by simp)⟩
end Go.Proofs.Ytgfcooaobfpdiaa

/- GolombBack: what is written is read. -/
import Derived.Test.YtgfcooaobfpdiaaCx
namespace Go.Proofs.Ytgfcooaobfpdiaa
open Go.RowKit
set_option linter.unusedVariables false

/-- A writer that the call has made. -/
structure Mine (w0 : World) (c : Nat) (w : World) (sv : Value) (l : List Bool) : Prop where
  wr : Wr w c sv l
  own : ∀ g, g ∈ ownOf sv → w0.heap.size ≤ g
  hc : w0.heap.size ≤ c
  only : Only [] w0 w
theorem Mine.keep {w0 : World} {c : Nat} {w w' : World} {sv : Value} {l : List Bool} (h : Mine w0 c w sv l) (k : Only [] w w') : Mine w0 c w' sv l :=
  ⟨h.wr.only k (by simp) (by simp), h.own, h.hc, h.only.trans k⟩
theorem Mine.put {w0 : World} {c : Nat} {w w' : World} {sv sv' : Value} {l l' : List Bool} (h : Mine w0 c w sv l) (p : PutLeft w w' c sv sv' l') : Mine w0 c w' sv' l' := by
  obtain ⟨a, b, d⟩ := only_put p ⟨h.only, h.hc, h.own⟩
  exact ⟨p.wr, d, b, a⟩
/-- A reader and a writer that the call has made. -/
theorem Mine.read {w0 : World} {c r : Nat} {w w' : World} {sv : Value} {l : List Bool} (h : Mine w0 c w sv l) (hr : w0.heap.size ≤ r) (hne : r ≠ c) (hro : r ∉ ownOf sv) (k : Only [r] w w') : Mine w0 c w' sv l :=
  ⟨h.wr.only k (fun e => hne (List.mem_singleton.1 e).symm) (fun g hg e => hro (List.mem_singleton.1 e ▸ hg)), h.own, h.hc, h.only.trans2 k (fun x hx => .inr (by rw [List.mem_singleton.1 hx]; exact hr))⟩

set_option maxRecDepth 100000 in
set_option maxHeartbeats 4000000 in
theorem back_walk (a : Option Addr) (len cap : Nat) (f : Nat → CallX) (after : ByteArray) (w : World) (hs : after.size ≤ maxLen) (hlc : len ≤ cap) (hcm : cap ≤ maxLen) (hc : CallsAt w a len f) :
    Calls Try.prog 6 #[.slice a len cap, .string after] w fun e w' => e = .returned (.bool true) ∧ Only [] w w' := by
  unfold maxLen at hs hcm
  by_cases h0 : 40 < len ∨ 100 < after.size
  · have h0' : (40 : Int) < (len : Int) ∨ ((len : Int) ≤ 40 ∧ (100 : Int) < (after.size : Int)) := by omega
    clear h0 hc
    rcases h0' with h0' | ⟨h1, h2⟩
    all_goals
      go_enter Try.func6, Try.ntmps6
      go_wp2_with (go_at_call 11; refine (known_any _).mono ?_; rintro e w1 ⟨rfl, ho1⟩)
      go_ret
      exact ⟨rfl, ho1⟩
  · have h1 : (after.size : Int) ≤ 100 := by omega
    have h2 : (len : Int) ≤ 40 := by omega
    have C0 := hid hc
    clear h0 hs hc
    go_enter Try.func6, Try.ntmps6
    go_wp2_with fail
    refine (write_any w).mono ?_
    rintro e w1 ⟨rfl, hw1, ho1⟩
    have M1 := hid (show Mine w w.heap.size w1 _ _ from ⟨hw1, by simp [ownOf, Value.ownBlock], Nat.le_refl _, ho1⟩)
    generalize hcc : w.heap.size = c at hw1 M1 ⊢
    clear hw1 ho1 hcc
    go_wp2_with fail
    go_loopg [6] len (fun g i wr => ∃ (j : Nat) (sv : Value), j + g = len ∧ i = .int .i64 j ∧ Mine w c wr sv (codes f j))
    case atStart => exact ⟨0, _, by omega, rfl, M1.out⟩
    case round =>
      obtain ⟨j, sv, hj, rfl, hM⟩ := hrel
      have M := hid hM
      have J := hid hj
      clear hM
      by_cases hg : gk = 0
      · have i1 : ¬ (j : Int) < (len : Int) := by omega
        obtain rfl : j = len := by omega
        clear hj
        have BG := hid (fun i (hi : i < j) => begins_codes f j after hi)
        have hsz : (pack (codes f j)).size ≤ 1000 := by have := codes_le f j; rw [size_pack]; omega
        have LN := hid (fun w h => len_any c sv (codes f j) w h)
        obtain ⟨N, hN⟩ : ∃ N, N = (codes f j).length := ⟨_, rfl⟩
        rw [← hN] at LN
        have NN := hid hN
        go_wp2_with fail
        refine (bytes_any c sv (codes f j) wr M.out.wr).mono ?_
        generalize pack (codes f j) = pk at *
        rintro e w3 ⟨rfl, ho3⟩
        have M3 := hid (M.out.keep ho3)
        clear ho3 hN
        go_wp2_with fail
        have hS : (pk ++ after).size ≤ 140737488351232 := by rw [ByteArray.size_append]; omega
        generalize pk ++ after = S at *
        refine (read_any S w3 hS).mono ?_
        rintro e w4 ⟨rfl, hr4, ho4⟩
        have M4 := hid (M3.out.keep ho4)
        have R4 := hid hr4
        have hrc : w3.heap.size ≠ c := by have := M3.out.wr.lt; omega
        have hrw : w.heap.size ≤ w3.heap.size := M3.out.only.size
        have hro : w3.heap.size ∉ ownOf sv := fun h => by have := M3.out.wr.row.lt _ h; omega
        generalize w3.heap.size = r at *
        have HRO := hid hro
        clear ho4 hr4 hro M M3 hS hsz
        go_wp2_with fail
        go_loopg [8] j (fun g i wr => ∃ n : Nat, n + g = j ∧ i = .int .i64 n ∧ Mine w c wr sv (codes f j) ∧ Rd wr r S (codes f n).length)
        case atStart => exact ⟨0, by omega, rfl, M4.out, R4.out⟩
        case round =>
          obtain ⟨n, hn, rfl, hM, hR⟩ := hrel
          have M := hid hM
          have R := hid hR
          have J := hid hn
          clear hM hR
          by_cases hg : gk = 0
          · have i1 : ¬ (n : Int) < (j : Int) := by omega
            obtain rfl : n = j := by omega
            clear hn
            go_wp2_with fail
            refine (pos_any r S _ _ R.out).mono ?_
            rw [← NN.out]
            rintro e w5 ⟨rfl, rfl⟩
            go_wp2_with fail
            refine (LN.out _ M.out.wr).mono ?_
            rintro e w6 ⟨rfl, n6, rfl⟩
            go_wp2_with fail
            refine (known_any _).mono ?_
            rintro e w7 ⟨rfl, ho7⟩
            go_wp2_with fail
            go_ret
            exact ⟨rfl, (M.out.only.drewN n6).trans ho7⟩
          · have i1 : (n : Int) < (j : Int) := by omega
            have hnl : n < j := by omega
            clear hn
            rcases C0.out with hz | ⟨b, o, rfl, hall⟩
            · omega
            have ok := (hall n hnl).2
            obtain ⟨x0, x1, x2, x3⟩ := (C0.out.at M.out.only hnl).all
            have FC := hid (fun w => fit_call (f n) w ok)
            have GC := hid (fun w h => get_call r S (codes f n).length (cN (f n)) (mN (f n)) (kN (f n)) (vN (f n)) w h (cN_le ok) (okX (f n)) (BG.out n hnl))
            clear hall ok
            go_wp2_with fail
            refine (FC.out wr).mono ?_
            rintro e w5 ⟨rfl, ho5⟩
            have M5 := hid (M.out.keep ho5)
            have R5 := hid (R.out.only ho5 (by simp))
            have hr5 : r < w5.heap.size := R5.out.lt
            have OA := hid (fun o => (Only.refl [] w5).alloc o)
            have XV := hid (fun (o : Obj) (h : (World.alloc w5 o).cell? ⟨w5.heap.size, 3, none⟩ = some (.int .u64 (vN (f n)))) (w6 : World) (k : Only [r] (World.alloc w5 o) w6) => k.cell h (by simp; omega))
            clear ho5 x0 x1 x2 x3
            go_wp2_with fail
            refine (GC.out _ (R5.out.only (OA.out _) (by simp))).mono ?_
            rintro e w6 ⟨rfl, hR6, hO6⟩
            have M6 := hid ((M5.out.keep (OA.out _)).read hrw hrc HRO.out hO6)
            have xv := XV.out _ (by simp) w6 hO6
            have R6 := hid hR6
            clear hR6 hO6
            generalize (vN (f n) : Int) = v at *
            go_wp2_with fail
            go_roundg (gk - 1)
            case measure => omega
            case rel => exact ⟨n + 1, by have := J.out; omega, by go_num, M6.out, by simp only [codes, List.length_append]; exact R6.out⟩
      · have i1 : (j : Int) < (len : Int) := by omega
        have hjl : j < len := by omega
        have hcl : (codes f j).length + 128 ≤ 281474976710656 := by have := codes_le f j; omega
        clear hj
        rcases C0.out with hz | ⟨b, o, rfl, hall⟩
        · omega
        have ok := (hall j hjl).2
        obtain ⟨x0, x1, x2, x3⟩ := (C0.out.at M.out.only hjl).all
        have FC := hid (fun w => fit_call (f j) w ok)
        have PC := hid (fun w h => put_call c sv (codes f j) (cN (f j)) (mN (f j)) (kN (f j)) (vN (f j)) w h (cN_le ok) (okX (f j)) hcl)
        clear hall ok hcl
        go_wp2_with fail
        refine (FC.out wr).mono ?_
        rintro e w3 ⟨rfl, ho3⟩
        have M3 := hid (M.out.keep ho3)
        have PC3 := hid (PC.out w3 M3.out.wr)
        clear ho3
        go_wp2_with fail
        refine PC3.out.mono ?_
        rintro e w4 ⟨rfl, sv4, hp4⟩
        have M4 := hid (M3.out.put hp4)
        clear hp4
        go_wp2_with fail
        go_roundg (gk - 1)
        case measure => omega
        case rel => exact ⟨j + 1, sv4, by have := J.out; omega, by go_num, M4.out⟩

open Go.ChangeShapes Go.WideShapes Go.ChangeAt
open Go.ChangeMaps (open_string)
theorem golombBack_core {H : Type} {enc : TypeId × Value → H} (W : World) (base : Nat)
    (v0 : Value) (d0 : DataW H) (p0 : List MemPlace) (k0 : Value.okWide Try.prog W .any base 22 v0) (h0 : DataW.Trod enc Try.prog W 0 (fun _ => true) true 22 v0 d0 p0)
    (v1 : Value) (d1 : DataW H) (p1 : List MemPlace) (k1 : Value.okWide Try.prog W .any base 9 v1) (h1 : DataW.Trod enc Try.prog W 0 (fun _ => true) true 9 v1 d1 p1) :
    Calls Try.prog 6 #[v0, v1] W fun e w' => e = .returned (.bool true) ∧ Below W.heap.size W w' := by
  obtain ⟨s, rfl, rfl, rfl, w0⟩ := open_string Try.underlying9 k1 h1
  obtain ⟨a, len, cap, f, rfl, hlc, hcm, hc⟩ := open_calls k0 h0
  exact (back_walk a len cap f s W w0 hlc hcm hc).mono fun e w' ⟨he, ho⟩ => ⟨he, ho.below (Nat.le_refl _) (by simp)⟩
end Go.Proofs.Ytgfcooaobfpdiaa

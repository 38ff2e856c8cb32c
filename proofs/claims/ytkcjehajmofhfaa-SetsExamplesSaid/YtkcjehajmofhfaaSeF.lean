/- The laws' helpers: put, awake. -/
import Derived.Test.YtkcjehajmofhfaaSeE
namespace Go.Proofs.Ytkcjehajmofhfaa
open Go.RowKit Go.Maps
set_option linter.unusedVariables false

theorem okS_sK {i r : Int} (h0 : 0 ≤ i) (h1 : i ≤ 31) (r0 : 0 ≤ r) (r1 : r ≤ 16) : okS (sK i r) = true := by
  unfold okS
  simp only [sK, Bool.and_eq_true]
  exact ⟨⟨⟨⟨⟨inB_mk h0 h1, by decide⟩, by decide⟩, inB_mk r0 r1⟩, by decide⟩, by decide⟩
theorem okP_pK {i o : Int} (h0 : 0 ≤ i) (h1 : i ≤ 31) (r0 : 0 ≤ o) (r1 : o ≤ 31) : okP (pK i o) = true := by
  unfold okP
  simp only [pK, Bool.and_eq_true]
  exact ⟨⟨⟨⟨⟨⟨inB_mk h0 h1, inB_mk r0 r1⟩, by decide⟩, by decide⟩, by decide⟩, by decide⟩, by decide⟩
/-- What the law's put makes of what is known. -/
def putF (f : Int → Option SV) (x : Bool × Int × Int) : Int → Option SV := if x.1 then f else upd f (x.2.1 % 4) (sK (x.2.1 % 4) (x.2.2 % 17))
def putG (g : Int → Option PV) (x : Bool × Int × Int) : Int → Option PV := if x.1 then upd g (x.2.1 % 4) (pK (x.2.1 % 4) (x.2.2 % 4)) else g

set_option maxRecDepth 100000 in
set_option maxHeartbeats 4000000 in
theorem lput_any {w : World} {b : Nat} {L : List Nat} {f : Int → Option SV} {g : Int → Option PV} {n : Nat} (h : StL w b L f g n) (x : Bool × Int × Int) (hn : n < maxLen) :
    Calls Try.prog 20 #[.pointer (some ⟨b, 0, none⟩), .agg #[.bool x.1, .int .i64 x.2.1, .int .i64 x.2.2]] w (PutPost w b L 0 (putF f x) (putG g x) (n + 1)) := by
  obtain ⟨c, i, o⟩ := x
  have H := hid h
  clear h
  cases c with
  | true =>
    have hok := hid (okP_pK (show 0 ≤ i % 4 by omega) (by omega) (show 0 ≤ o % 4 by omega) (by omega))
    go_enter Try.func20, Try.ntmps20
    go_wp2_with fail
    go_region_with (first | (go_at_call 21; refine (mod_any _ 4 _ (by decide) (by decide)).mono ?_; rintro e wx ⟨rfl, rfl⟩) | (go_at_call 22; refine (ppsk_any _ _ _).mono ?_; rintro e w2 ⟨rfl, ho2⟩; have O2 := hid (show Only [] w w2 from Only.trans (by first | exact ((Only.refl [] _).alloc _).drewN _ | exact ((Only.refl [] _).alloc _).drew | exact (Only.refl [] _).alloc _) ho2)) | (go_at_call 12; refine (PutPps_any (H.out.only (show Only [] w _ by first | exact O2.out.drewN _ | exact O2.out.drew | exact O2.out) (by simp)) (pK (i % 4) (o % 4)) hok.out hn).mono ?_; rintro e w3 ⟨rfl, L', hst, ho3, hl'⟩))
    all_goals
      go_wp2_with fail
      go_frame
      go_ret
      exact ⟨rfl, L', hst, ((show Only [] w _ by first | exact O2.out.drewN _ | exact O2.out.drew | exact O2.out).mono (by simp)).trans ho3, fun y hy => (hl' y hy).imp id (fun h => Nat.le_trans O2.out.size h)⟩
  | false =>
    have hok := hid (okS_sK (show 0 ≤ i % 4 by omega) (by omega) (show 0 ≤ o % 17 by omega) (by omega))
    go_enter Try.func20, Try.ntmps20
    go_wp2_with fail
    go_region_with (first | (go_at_call 21; (first | (with_reducible refine (mod_any _ 4 _ (by decide) (by decide)).mono ?_) | (with_reducible refine (mod_any _ 17 _ (by decide) (by decide)).mono ?_)); rintro e wx ⟨rfl, rfl⟩) | (go_at_call 23; refine (spsk_any _ _ _).mono ?_; rintro e w2 ⟨rfl, ho2⟩; have O2 := hid (show Only [] w w2 from Only.trans (by first | exact ((Only.refl [] _).alloc _).drewN _ | exact ((Only.refl [] _).alloc _).drew | exact (Only.refl [] _).alloc _) ho2)) | (go_at_call 10; refine (PutSps_any (H.out.only (show Only [] w _ by first | exact O2.out.drewN _ | exact O2.out.drew | exact O2.out) (by simp)) (sK (i % 4) (o % 17)) hok.out hn).mono ?_; rintro e w3 ⟨rfl, L', hst, ho3, hl'⟩))
    all_goals
      go_wp2_with fail
      go_frame
      go_ret
      exact ⟨rfl, L', hst, ((show Only [] w _ by first | exact O2.out.drewN _ | exact O2.out.drew | exact O2.out).mono (by simp)).trans ho3, fun y hy => (hl' y hy).imp id (fun h => Nat.le_trans O2.out.size h)⟩
end Go.Proofs.Ytkcjehajmofhfaa

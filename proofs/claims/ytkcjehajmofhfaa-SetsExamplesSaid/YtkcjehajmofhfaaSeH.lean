/- SetsMatches' helper: gets. -/
import Derived.Test.YtkcjehajmofhfaaReG
import Derived.Test.YtkcjehajmofhfaaSeW
namespace Go.Proofs.Ytkcjehajmofhfaa
open Go.RowKit Go.Maps
set_option linter.unusedVariables false

set_option maxRecDepth 100000 in
set_option maxHeartbeats 4000000 in
theorem gets_any {w : World} {b c : Nat} {L M : List Nat} {ls : List SV} {lp : List PV} {n : Nat} (h : StL w b L (fS ls) (fP lp) n) (k : RStL w c M ls lp) (i : Int) (l1 : ls.length < 1000) (l2 : lp.length < 1000) :
    Calls Try.prog 14 #[.pointer (some ⟨b, 0, none⟩), .pointer (some ⟨c, 0, none⟩), .int .i64 i] w fun e w' => e = .returned (.bool true) ∧ Only [] w w' := by
  have H := hid h
  have R := hid k
  clear h k
  obtain ⟨p, s, e0, hr⟩ : ∃ p s e0, getR (fS ls) (fP lp) i = (p, s, e0) := ⟨_, _, _, rfl⟩
  have HR := hid hr
  have E1 := fun w => eql_p p p (r := true) (by simp) w
  have E2 := fun w => eql_s s s (r := true) (by simp) w
  clear hr
  go_enter Try.func14, Try.ntmps14
  go_wp2_with fail
  refine (get_any H.out i HR.out).mono ?_
  rintro e w1 ⟨rfl, o1⟩
  go_upto_region 2 with (fail)
  generalize hw2 : (w1.alloc _).alloc _ = w2
  have O2 := hid (show Only [] w w2 from hw2 ▸ ((o1.alloc _).alloc _))
  have PA := hid (show PAt w2 w1.heap.size 0 p from hw2 ▸ ((PAt.new w1 p _).only ((Only.refl [] _).alloc _) (by simp)))
  have SA := hid (show SAt w2 (w1.heap.size + 1) 0 s from hw2 ▸ (by have a := SAt.new (w1.alloc (.cells (pC p) 30)) s 28; rw [show (w1.alloc (.cells (pC p) 30)).heap.size = w1.heap.size + 1 from by simp] at a; exact a))
  generalize w1.heap.size = D at PA SA ⊢
  clear hw2 o1
  go_wp2_with fail
  refine (rget_any (R.out.only O2.out (by simp)) i HR.out l1 l2).mono ?_
  rintro e w3 ⟨rfl, o3⟩
  have O3 := hid (O2.out.trans o3)
  have PB := fun o1 o2 => (PA.out.only ((o3.alloc o1).alloc o2) (by simp)).all
  have SB : ∀ o1 o2, SAt ((w3.alloc o1).alloc o2) (D + 1) 0 s := fun o1 o2 => SA.out.only ((o3.alloc o1).alloc o2) (by simp)
  have SB := fun o1 o2 => (SB o1 o2).all
  clear o3
  go_wp2_with fail
  go_ret
  exact ⟨by first | rfl | simp, (O3.out.alloc _).alloc _⟩
end Go.Proofs.Ytkcjehajmofhfaa

/- The reference's store: Get. -/
import Derived.Test.YtjjjfmnhdnajkaaGreatDoorReP
import Derived.Test.YtjjjfmnhdnajkaaGreatDoorSeS
import Derived.Deep.LoopGhost
import Derived.Deep.CutBlock
namespace Go.Proofs.YtjjjfmnhdnajkaaGreatDoor
open Go.RowKit
set_option linter.unusedVariables false

/-- What a list of parameter sets says: the latest ones. -/
def fS (l : List SV) : Int → Option SV := l.foldl (fun f x => upd f x.id x) (fun _ => none)
def fP (l : List PV) : Int → Option PV := l.foldl (fun f x => upd f x.id x) (fun _ => none)
theorem fS_snoc (l : List SV) (x : SV) : fS (l ++ [x]) = upd (fS l) x.id x := by unfold fS; rw [List.foldl_append]; rfl
theorem fP_snoc (l : List PV) (x : PV) : fP (l ++ [x]) = upd (fP l) x.id x := by unfold fP; rw [List.foldl_append]; rfl
theorem fS_take {l : List SV} {m : Nat} {x : SV} (h : l[m]? = some x) : fS (l.take (m + 1)) = upd (fS (l.take m)) x.id x := by
  obtain ⟨hl, rfl⟩ := List.getElem?_eq_some_iff.1 h
  rw [List.take_succ_eq_append_getElem hl, fS_snoc]
theorem fP_take {l : List PV} {m : Nat} {x : PV} (h : l[m]? = some x) : fP (l.take (m + 1)) = upd (fP (l.take m)) x.id x := by
  obtain ⟨hl, rfl⟩ := List.getElem?_eq_some_iff.1 h
  rw [List.take_succ_eq_append_getElem hl, fP_snoc]
theorem drewN_c (w : World) (n : Nat) (a : Addr) : (w.drewN n).cell? a = w.cell? a := rfl
theorem drewN_f (w : World) (n : Nat) (a : Addr) : (w.drewN n).frozen? a = w.frozen? a := rfl

theorem res2 {w : World} {D : Nat} {p q : PV} {s r : SV} (hp : PAt w D 0 q) (hs : SAt w (D + 1) 0 r) : PAt (setS (setP w D 0 p) (D + 1) 0 s) D 0 p ∧ SAt (setS (setP w D 0 p) (D + 1) 0 s) (D + 1) 0 s ∧ Only [D, D + 1] w (setS (setP w D 0 p) (D + 1) 0 s) := by
  have a := setP_at (x := p) hp
  have b : SAt (setP w D 0 p) (D + 1) 0 r := ⟨(setP_far (by omega)).trans hs.c0, (setP_far (by omega)).trans hs.c1, (setP_far (by omega)).trans hs.c2, (setP_far (by omega)).trans hs.c3, (setP_far (by omega)).trans hs.c4, (setP_far (by omega)).trans hs.c5, (setP_far (by omega)).trans hs.c6, (setP_far (by omega)).trans hs.c7, (setP_far (by omega)).trans hs.c8⟩
  exact ⟨⟨(setS_far (by omega)).trans a.c0, (setS_far (by omega)).trans a.c1, (setS_far (by omega)).trans a.c2, (setS_far (by omega)).trans a.c3, (setS_far (by omega)).trans a.c4, (setS_far (by omega)).trans a.c5, (setS_far (by omega)).trans a.c6, (setS_far (by omega)).trans a.c7, (setS_far (by omega)).trans a.c8, (setS_far (by omega)).trans a.c9⟩, setS_at b, setS_only (setP_only (Only.refl _ _) (.inl (by simp))) (.inl (by simp))⟩
set_option maxRecDepth 100000 in
set_option maxHeartbeats 16000000 in
theorem rget_in {w : World} {b : Nat} {v1 v2 : Value} {ls : List SV} {lp : List PV} (h : RSt w b v1 v2 ls lp) (i : Int) (h1 : 0 ≤ i) (h2 : i < 32) {p : PV} {s : SV} {e0 : Int} (hr : getR (fS ls) (fP lp) i = (p, s, e0)) (l1 : ls.length < 1000) (l2 : lp.length < 1000) :
    Calls Tryz.prog 86 #[.pointer (some ⟨b, 0, none⟩), .int .i64 i] w fun e w' => e = .returned (.tuple #[pV p, sV s, .int .i64 e0]) ∧ Only [] w w' := by
  have hr' : getR (fS ls) (fP lp) i = match fP lp i with | none => (p0, s0, 7) | some p => match fS ls p.sps with | none => (p0, s0, 7) | some s => (p, s, 0) := by unfold getR; rw [if_neg (by omega)]; rfl
  rw [hr'] at hr
  have HR := hid hr
  have H := hid h
  obtain ⟨a1, k1, rfl, _⟩ := h.h1.holds sCl_ok
  obtain ⟨a2, k2, rfl, _⟩ := h.h2.holds pCl_ok
  have L1 : (ls.length : Int) < 1000 := by omega
  have L2 : (lp.length : Int) < 1000 := by omega
  clear hr hr' h l1 l2
  have h0 : ¬ i < 0 := by omega
  go_enter Tryz.func86, Tryz.ntmps86
  go_upto_region 1 with (fail)
  generalize hw0 : (w.alloc _).alloc _ = w0
  have O0 := hid (show Only [] w w0 from hw0 ▸ ((Only.refl [] w).alloc _).alloc _)
  obtain ⟨D, hD⟩ : ∃ D, D = w.heap.size := ⟨_, rfl⟩
  have P0 := hid (show PAt w0 w.heap.size 0 p0 from hw0 ▸ ((PAt.new w p0 _).only ((Only.refl [] _).alloc _) (by simp)))
  have S0 := hid (show SAt w0 (w.heap.size + 1) 0 s0 from hw0 ▸ (by have a := SAt.new (w.alloc (.cells (pC p0) 24)) s0 27; rw [show (w.alloc (.cells (pC p0) 24)).heap.size = w.heap.size + 1 from by simp] at a; exact a))
  have F1 := hid (show ∀ o, w0.frozen? ⟨w.heap.size, o, none⟩ = false from fun o => by
    rw [← hw0]
    exact (((Only.refl [] (w.alloc (.cells (pC p0) 24))).alloc _).frozen (p := ⟨w.heap.size, o, none⟩) (by simp) (by simp)).trans (by simp))
  have F2 := hid (show ∀ o, w0.frozen? ⟨w.heap.size + 1, o, none⟩ = false from fun o => by rw [← hw0]; simp)
  rw [← hD] at P0 S0 F1 F2 ⊢
  have R0 := hid (H.out.only O0.out (by simp))
  have HD := hid hD
  clear hw0 hD
  have c0 := R0.out.c0
  have c1 := R0.out.c1
  go_wp2_with fail
  go_loopg [7] lp.length (fun gh t wr => ∃ t0 : Int, t = .int .i64 t0 ∧ t0 = (gh : Int) - 1 ∧ gh ≤ lp.length ∧ fP lp i = fP (lp.take gh) i ∧ ∃ d, wr = w0.drewN d)
  case atStart => exact ⟨(lp.length : Int) - 1, rfl, rfl, Nat.le_refl _, by rw [List.take_length], 0, rfl⟩
  case round =>
    obtain ⟨t0, rfl, ht, hg, hf, d, rfl⟩ := hrel
    cases gk with
    | zero =>
      have e : t0 = -1 := by omega
      subst e
      have E := hid (show (p, s, e0) = (p0, s0, 7) from by rw [← HR.out, hf]; rfl)
      clear ht hg hf
      cases E.out
      obtain ⟨q0, q1, q2, q3, q4, q5, q6, q7, q8, q9⟩ := P0.out.all
      obtain ⟨z0, z1, z2, z3, z4, z5, z6, z7, z8⟩ := S0.out.all
      have f1 := F1.out
      have f2 := F2.out
      go_wp2_with fail
      generalize hwz : World.setCell _ _ _ = wz
      obtain ⟨hp, hs, ho⟩ := (show PAt wz D 0 p0 ∧ SAt wz (D + 1) 0 s0 ∧ Only [D, D + 1] (w0.drewN d) wz from hwz ▸ res2 (p := p0) (s := s0) (P0.out.only ((Only.refl [] w0).drewN _) (by simp)) (S0.out.only ((Only.refl [] w0).drewN _) (by simp)))
      have OO := hid (show Only [] w wz from (O0.out.drewN _).trans2 ho (fun x hx => .inr (by have := HD.out; simp at hx; omega)))
      obtain ⟨x0, x1, x2, x3, x4, x5, x6, x7, x8, x9⟩ := hp.all
      obtain ⟨y0, y1, y2, y3, y4, y5, y6, y7, y8⟩ := hs.all
      exact bodyPost_ret (v := .tuple #[pV p0, sV s0, .int .i64 7]) (by simp [results, Tryz.results86, go_sem, x0, x1, x2, x3, x4, x5, x6, x7, x8, x9, y0, y1, y2, y3, y4, y5, y6, y7, y8]) rfl ⟨rfl, OO.out⟩
    | succ m =>
      obtain rfl : t0 = (m : Int) := by omega
      have i1 : (0 : Int) ≤ (m : Int) := by omega
      have i2 : (m : Int) < (lp.length : Int) := by omega
      obtain ⟨y, hy⟩ : ∃ y, lp[m]? = some y := ⟨_, List.getElem?_eq_getElem (by omega : m < lp.length)⟩
      obtain ⟨gb, go_, rfl, hcy⟩ := (R0.out.h2.holds pCl_ok).at hy
      have PY := hid (pAt_of hcy)
      have LG := hid (show gb < D from by
        obtain ⟨g', o', e, hc⟩ := (H.out.h2.holds pCl_ok).at hy
        cases e
        rw [HD.out]
        exact World.block_lt_of_cell? _ _ (pAt_of hc).c0)
      have FT := hid (hf.trans (by rw [fP_take hy]))
      have ML := hid (show m ≤ lp.length by omega)
      have q0 := PY.out.c0
      clear hf hcy hy ht hg
      by_cases e : y.id = i
      · have NE : (y.id != i) = false := by simp [e]
        have FY := hid (show fP lp i = some y by rw [FT.out, e, upd_same])
        have q1 := PY.out.c1
        clear e
        go_wp2_with fail
        go_loopg [8] ls.length (fun gh t wr => ∃ t0 : Int, t = .int .i64 t0 ∧ t0 = (gh : Int) - 1 ∧ gh ≤ ls.length ∧ fS ls y.sps = fS (ls.take gh) y.sps ∧ ∃ d, wr = w0.drewN d)
        case atStart => exact ⟨(ls.length : Int) - 1, rfl, rfl, Nat.le_refl _, by rw [List.take_length], _, rfl⟩
        case round =>
          obtain ⟨t0, rfl, ht, hg, hf, d2, rfl⟩ := hrel
          cases gk with
          | zero =>
            have e : t0 = -1 := by omega
            subst e
            have E := hid (show (p, s, e0) = (p0, s0, 7) from by rw [← HR.out, FY.out]; simp only; rw [hf]; rfl)
            clear ht hg hf q0 q1
            cases E.out
            obtain ⟨q0, q1, q2, q3, q4, q5, q6, q7, q8, q9⟩ := P0.out.all
            obtain ⟨z0, z1, z2, z3, z4, z5, z6, z7, z8⟩ := S0.out.all
            have f1 := F1.out
            have f2 := F2.out
            go_wp2_with fail
            generalize hwz : World.setCell _ _ _ = wz
            obtain ⟨hp, hs, ho⟩ := (show PAt wz D 0 p0 ∧ SAt wz (D + 1) 0 s0 ∧ Only [D, D + 1] (w0.drewN d2) wz from hwz ▸ res2 (p := p0) (s := s0) (P0.out.only ((Only.refl [] w0).drewN _) (by simp)) (S0.out.only ((Only.refl [] w0).drewN _) (by simp)))
            have OO := hid (show Only [] w wz from (O0.out.drewN _).trans2 ho (fun x hx => .inr (by have := HD.out; simp at hx; omega)))
            obtain ⟨x0, x1, x2, x3, x4, x5, x6, x7, x8, x9⟩ := hp.all
            obtain ⟨y0, y1, y2, y3, y4, y5, y6, y7, y8⟩ := hs.all
            exact bodyPost_ret (v := .tuple #[pV p0, sV s0, .int .i64 7]) (by simp [results, Tryz.results86, go_sem, x0, x1, x2, x3, x4, x5, x6, x7, x8, x9, y0, y1, y2, y3, y4, y5, y6, y7, y8]) rfl ⟨rfl, OO.out⟩
          | succ m2 =>
            obtain rfl : t0 = (m2 : Int) := by omega
            have j1 : (0 : Int) ≤ (m2 : Int) := by omega
            have j2 : (m2 : Int) < (ls.length : Int) := by omega
            obtain ⟨z, hz⟩ : ∃ z, ls[m2]? = some z := ⟨_, List.getElem?_eq_getElem (by omega : m2 < ls.length)⟩
            obtain ⟨gc, gd, rfl, hcz⟩ := (R0.out.h1.holds sCl_ok).at hz
            have SZ := hid (sAt_of hcz)
            have LC := hid (show gc < D from by
              obtain ⟨g', o', e, hc⟩ := (H.out.h1.holds sCl_ok).at hz
              cases e
              rw [HD.out]
              exact World.block_lt_of_cell? _ _ (sAt_of hc).c0)
            have FU := hid (hf.trans (by rw [fS_take hz]))
            have ML2 := hid (show m2 ≤ ls.length by omega)
            have z3 := SZ.out.c3
            clear hf hcz hz ht hg
            by_cases e : z.id = y.sps
            · have EQ : (z.id == y.sps) = true := by simp [e]
              have E := hid (show (p, s, e0) = (y, z, 0) from by rw [← HR.out, FY.out]; simp only; rw [FU.out, e, upd_same])
              clear e
              cases E.out
              go_wp2_with fail
              go_quiet (fail)
              go_wp2_with fail
              obtain ⟨y0, y1, y2, y3, y4, y5, y6, y7, y8, y9⟩ := PY.out
              obtain ⟨z0, z1, z2, z3, z4, z5, z6, z7, z8⟩ := SZ.out
              obtain ⟨o0, o1, o2, o3, o4, o5, o6, o7, o8, o9⟩ := P0.out.all
              obtain ⟨r0, r1, r2, r3, r4, r5, r6, r7, r8⟩ := S0.out.all
              have f1 := F1.out
              have f2 := F2.out
              have n1 : ¬ gb = D := by have := LG.out; omega
              have n2 : ¬ D = gb := by have := LG.out; omega
              have n3 : ¬ gb = D + 1 := by have := LG.out; omega
              have n4 : ¬ D + 1 = gb := by have := LG.out; omega
              have n5 : ¬ gc = D := by have := LC.out; omega
              have n6 : ¬ D = gc := by have := LC.out; omega
              have n7 : ¬ gc = D + 1 := by have := LC.out; omega
              have n8 : ¬ D + 1 = gc := by have := LC.out; omega
              have lb := H.out.lt
              have n9 : ¬ b = D := by have := HD.out; omega
              have n10 : ¬ D = b := by have := HD.out; omega
              have n11 : ¬ b = D + 1 := by have := HD.out; omega
              have n12 : ¬ D + 1 = b := by have := HD.out; omega
              clear lb
              go_region
              all_goals
                go_wp2_with fail
                generalize hwz : World.setCell _ _ _ = wz
                obtain ⟨hp, hs, ho⟩ := (show PAt wz D 0 p ∧ SAt wz (D + 1) 0 s ∧ Only [D, D + 1] (w0.drewN (d2 + nq + 1)) wz from hwz ▸ res2 (p := p) (s := s) (P0.out.only ((Only.refl [] w0).drewN _) (by simp)) (S0.out.only ((Only.refl [] w0).drewN _) (by simp)))
                have OO := hid (show Only [] w wz from (O0.out.drewN _).trans2 ho (fun x hx => .inr (by have := HD.out; simp at hx; omega)))
                obtain ⟨x0, x1, x2, x3, x4, x5, x6, x7, x8, x9⟩ := hp.all
                obtain ⟨y0, y1, y2, y3, y4, y5, y6, y7, y8⟩ := hs.all
                exact bodyPost_ret (v := .tuple #[pV p, sV s, .int .i64 0]) (by simp [results, Tryz.results86, go_sem, x0, x1, x2, x3, x4, x5, x6, x7, x8, x9, y0, y1, y2, y3, y4, y5, y6, y7, y8]) rfl ⟨rfl, OO.out⟩
            · have EQ : (z.id == y.sps) = false := by simp [e]
              have FV := hid (show fS ls y.sps = fS (ls.take m2) y.sps from by rw [FU.out, upd_other _ _ (Ne.symm e)])
              clear e
              go_wp2_with fail
              go_quiet (fail)
              go_wp2_with fail
              go_roundg m2
              case measure => omega
              case rel => exact ⟨(m2 : Int) - 1, rfl, rfl, ML2.out, FV.out, _, rfl⟩
      · have NE : (y.id != i) = true := by simp [e]
        have FV := hid (show fP lp i = fP (lp.take m) i from by rw [FT.out, upd_other _ _ (Ne.symm e)])
        clear e
        go_wp2_with fail
        go_roundg m
        case measure => omega
        case rel => exact ⟨(m : Int) - 1, rfl, rfl, ML.out, FV.out, d, rfl⟩
set_option maxRecDepth 100000 in
set_option maxHeartbeats 2000000 in
theorem rget_out {w : World} (b : Nat) (i : Int) (hi : i < 0 ∨ 32 ≤ i) :
    Calls Tryz.prog 86 #[.pointer (some ⟨b, 0, none⟩), .int .i64 i] w fun e w' => e = .returned (.tuple #[pV p0, sV s0, .int .i64 3]) ∧ Only [] w w' := by
  rcases hi with h1 | h1
  · go_enter Tryz.func86, Tryz.ntmps86
    go_wp2_with fail
    exact bodyPost_ret (v := .tuple #[pV p0, sV s0, .int .i64 3]) (by simp [results, Tryz.results86, go_sem, p0, s0]) rfl ⟨rfl, ((Only.refl [] w).alloc _).alloc _⟩
  · have h0 : ¬ i < 0 := by omega
    go_enter Tryz.func86, Tryz.ntmps86
    go_wp2_with fail
    exact bodyPost_ret (v := .tuple #[pV p0, sV s0, .int .i64 3]) (by simp [results, Tryz.results86, go_sem, p0, s0]) rfl ⟨rfl, ((Only.refl [] w).alloc _).alloc _⟩
theorem rget_any {w : World} {b : Nat} {L : List Nat} {ls : List SV} {lp : List PV} (h : RStL w b L ls lp) (i : Int) {p : PV} {s : SV} {e0 : Int} (hr : getR (fS ls) (fP lp) i = (p, s, e0)) (l1 : ls.length < 1000) (l2 : lp.length < 1000) :
    Calls Tryz.prog 86 #[.pointer (some ⟨b, 0, none⟩), .int .i64 i] w fun e w' => e = .returned (.tuple #[pV p, sV s, .int .i64 e0]) ∧ Only [] w w' := by
  by_cases hi : i < 0 ∨ 32 ≤ i
  · unfold getR at hr
    rw [if_pos hi] at hr
    cases hr
    exact rget_out b i hi
  · obtain ⟨v1, v2, rfl, h⟩ := h
    exact rget_in h i (by omega) (by omega) hr l1 l2
end Go.Proofs.YtjjjfmnhdnajkaaGreatDoor

/- The program's Check, whole. -/
import Derived.Test.YtpmmnjeomdjakaaDoorMqP
namespace Go.Proofs.YtpmmnjeomdjakaaDoor
open Go.RowKit
set_option linter.unusedVariables false
set_option linter.unusedSimpArgs false

def or2 (a b : Int) : Int := if a = 0 then b else a
theorem firstE_cons (x : Int) (l : List Int) : firstE (x :: l) = or2 x (firstE l) := rfl
theorem firstE_app (a b : List Int) : firstE (a ++ b) = or2 (firstE a) (firstE b) := firstE_append a b
theorem firstE_nil : firstE [] = 0 := rfl
theorem or2_zero (a : Int) : or2 a 0 = a := by unfold or2; split; (rename_i h; exact h.symm); rfl
theorem or2_assoc (a b c : Int) : or2 (or2 a b) c = or2 a (or2 b c) := by unfold or2; split <;> simp_all
theorem or2_or2 (a b : Int) (h : a ≠ 0) : or2 a b = a := if_neg h
theorem inI_nn {p hi : Int} (h : 0 ≤ p) : inI p 0 hi = decide (p ≤ hi) := by unfold inI; rw [decide_eq_true h, Bool.true_and]
theorem inI_zz {p : Int} (h : 0 ≤ p) : inI p 0 0 = decide (p = 0) := by
  rw [inI_nn h, decide_eq_decide]; omega
theorem inI_z (p : Int) : inI p 0 0 = decide (p = 0) := by
  unfold inI
  by_cases h : p = 0
  · subst h; rfl
  · rw [decide_eq_false h]
    by_cases h1 : 0 ≤ p
    · rw [decide_eq_true h1, decide_eq_false (by omega)]; rfl
    · rw [decide_eq_false h1]; rfl
theorem firstE_yes (f : Int → Int) (g : Int → Bool) (e : Int) (he : e ≠ 0) (l : List Int) (h : ∀ p, p ∈ l → f p = if g p = true then 0 else e) : firstE (l.map f) = if (l.all g) = true then 0 else e := by
  induction l with
  | nil => rfl
  | cons p l ih =>
    rw [List.map_cons, firstE_cons, h p (by simp), ih (fun q hq => h q (List.mem_cons_of_mem _ hq)), List.all_cons]
    cases g p
    · simp [or2, he]
    · simp [or2]
theorem first_fix (b : Bool) (l : List Int) (hi : Int) (f : Int → Int) (hl : ∀ p, p ∈ l → 0 ≤ p) (h1 : b = true → ∀ p, f p = rngE (decide (p ≤ hi))) (h2 : b = false → ∀ p, f p = absE (decide (p = 0))) : firstE (l.map f) = fixE b l 0 hi := by
  unfold fixE
  cases b
  · simp only [Bool.false_eq_true, if_false]
    rw [firstE_yes f (fun n => inI n 0 0) 2 (by decide) l (fun p hp => by rw [h2 rfl, inI_z]; rfl)]
    rfl
  · simp only [if_true]
    rw [firstE_yes f (fun n => inI n 0 hi) 3 (by decide) l (fun p hp => by rw [h1 rfl, inI_nn (hl p hp)]; rfl)]
    rfl
theorem first_one (b : Bool) (p hi : Int) (e : Int) (hp : 0 ≤ p) (h1 : b = true → e = rngE (decide (p ≤ hi))) (h2 : b = false → e = absE (decide (p = 0))) : e = fixE b [p] 0 hi := by
  rw [← first_fix b [p] hi (fun q => if b = true then rngE (decide (q ≤ hi)) else absE (decide (q = 0))) (by simpa using hp) (fun h q => by rw [h]; rfl) (fun h q => by rw [h]; rfl)]
  rw [List.map_cons, List.map_nil, firstE_cons, firstE_nil, or2_zero]
  cases b
  · exact h2 rfl
  · exact h1 rfl
theorem listE_first (l : List Int) (n lo hi : Int) (f : Int → Int) (h : ∀ p, f p = rngE (inI p lo hi)) : or2 (absE (decide ((l.length : Int) = n))) (firstE (l.map f)) = listE l n lo hi := by
  rw [firstE_yes f (fun n => inI n lo hi) 3 (by decide) l (fun p _ => by rw [h]; rfl)]
  unfold listE absE
  by_cases hl : (l.length : Int) = n
  · simp only [hl, decide_true, if_true]
    simp only [or2, if_true]
    rfl
  · simp only [hl, decide_false, if_false]
    simp [or2]
theorem beqI (a b : Int) : (a == b) = decide (a = b) := rfl
theorem errs_all (x : MV) (refs : Int) (hx : MIn x) (hk : x.kind ≤ 7) : firstE (errsP x refs) = firstE (allE x refs) := by
  have s1 : modeE x = fixE (x.kind == 1) [x.mode] 0 3 := first_one _ _ _ _ hx.m0 (fun h => by rw [beqI] at h; unfold modeE; rw [if_pos (of_decide_eq_true h)]) (fun h => by rw [beqI] at h; unfold modeE; rw [if_neg (of_decide_eq_false h)])
  have s2 : chromaE x = fixE (x.kind == 0 || x.kind == 1) [x.chroma] 0 3 := first_one _ _ _ _ hx.h0
    (fun h => by simp at h; unfold chromaE; rw [if_pos h]) (fun h => by simp at h; unfold chromaE; rw [if_neg (by omega)])
  have s3 : firstE (x.pr.l.map (predE x.kind)) = fixE (x.kind == 0) x.pr.l 0 8 := first_fix _ _ _ _ (fun p hp => (hx.p p hp).1)
    (fun h p => by simp at h; unfold predE; rw [if_pos h]) (fun h p => by simp at h; unfold predE; rw [if_neg h])
  have s4 : firstE (x.sb.l.map (subE x.kind)) = fixE (x.kind == 6) x.sb.l 0 3 := first_fix _ _ _ _ (fun p hp => (hx.s p hp).1)
    (fun h p => by simp at h; unfold subE; rw [if_pos h]) (fun h p => by simp at h; unfold subE; rw [if_neg h])
  have s5 : firstE (motionE x refs) = or2 (listE x.refs (partsI x.kind) 0 (refs - 1)) (mvdsP x) := by
    unfold motionE
    by_cases hi : interI x.kind = true
    · rw [if_pos hi]
      simp only [firstE_app, firstE_cons, firstE_nil, or2_zero, or2_assoc]
      rw [← or2_assoc, listE_first x.refs (partsI x.kind) 0 (refs - 1) (refE refs) (fun p => rfl)]
      congr 1
      unfold mvdsP absE or2
      by_cases h : (x.mvds.length : Int) = (piecesN x.kind.toNat (subN x.sb)).1
      · simp [h]
      · simp [h]
    · rw [if_neg hi]
      have hn : ¬ (3 ≤ x.kind ∧ x.kind ≤ 6) := by
        unfold interI at hi
        simpa using hi
      have hp : partsI x.kind = 0 := by unfold partsI; rw [if_neg (by omega), if_neg (by omega), if_neg (by omega)]
      have hq : (piecesN x.kind.toNat (subN x.sb)).1 = 0 := by
        rw [pieces_other _ _ (by have := hx.k0; omega), if_neg (by have := hx.k0; omega)]
      rw [hp]
      simp only [firstE_cons, firstE_nil, or2_zero]
      congr 1
      · unfold absE listE
        cases x.refs with
        | nil => rfl
        | cons a l => simp; omega
      · unfold absE mvdsP
        rw [hq]
        cases x.mvds with
        | nil => rfl
        | cons a l => simp; omega
  have s7 : cbpE x = cbpW x := by
    unfold cbpE cbpW fixE
    by_cases hc : codedI x.kind = true
    · rw [if_pos hc, if_pos hc]
      have e : allI [x.cbp] 0 47 = decide (x.cbp ≤ 47) := by simp [allI, inI_nn hx.c0]
      rw [e]
      unfold rngE
      by_cases h1 : x.kind = 1
      · by_cases h2 : x.cbp % 16 = 0
        · simp [h1, h2]
        · by_cases h3 : x.cbp % 16 = 15
          · simp [h1, h3]
          · simp [h1, h2, h3]
      · simp [h1]
    · have h1 : ¬ x.kind = 1 := fun h => hc (by rw [h]; rfl)
      rw [if_neg hc, if_neg (fun h => h1 h.1), if_neg hc]
      have e : allI [x.cbp] 0 0 = decide (x.cbp = 0) := by simp [allI, inI_z]
      rw [e]
      rfl
  have s8 : qpE x = fixE (hasQ x) [x.qp] (-26) 25 := by
    unfold qpE fixE
    have e : hasQ x = decide (x.kind = 1 ∨ (codedI x.kind = true ∧ x.cbp ≠ 0)) := by
      unfold hasQ
      by_cases h1 : x.kind = 1
      · simp [h1]
      · cases h2 : codedI x.kind <;> by_cases h3 : x.cbp = 0 <;> simp [h1, h3]
    rw [e]
    by_cases h : x.kind = 1 ∨ (codedI x.kind = true ∧ x.cbp ≠ 0)
    · rw [if_pos h, if_pos (decide_eq_true h)]
      simp [allI, rngE]
    · rw [if_neg h, if_neg (by rw [decide_eq_false h]; decide)]
      have e : allI [x.qp] 0 0 = decide (x.qp = 0) := by simp [allI, inI_z]
      rw [e]
      rfl
  have s9 : or2 (absE (decide (x.blocks.length = (whichL x).length))) (firstE (blksE (whichL x) x.blocks)) = blksP x := by
    unfold blksP absE or2
    by_cases h : x.blocks.length = (whichL x).length
    · simp [h]
    · simp [h]
  have s10 : pcmE x = pcmW x := by
    unfold pcmE pcmW
    by_cases h : x.kind = 2
    · rw [if_pos h, if_pos h]
    · rw [if_neg h, if_neg h]
      congr 1
      rw [decide_eq_decide]
      constructor
      · intro e; rw [e]; rfl
      · intro e
        have : x.pcm.size = 0 := by omega
        exact ByteArray.ext (Array.eq_empty_of_size_eq_zero this)
  unfold errsP allE smallE restE
  simp only [firstE_app, firstE_cons, firstE_nil, or2_zero, or2_assoc, s1, s2, s3, s4, s5, s7, s8, s10]
  rw [← or2_assoc (absE _), s9]
set_option maxRecDepth 100000 in
set_option maxHeartbeats 4000000 in
theorem check13_any (x : MV) (rv vv bv : Value) (i : Bool) (refs : Int) (w : World) (hV : MbV w) (hx : MIn x) (hm : MAt w x rv vv bv) (hf : MFew x) :
    Calls Tryd.prog 11 #[mV x rv vv bv, .bool i, .int .i64 refs] w fun e w' => e = .returned (.int .i64 (checkI x i refs)) ∧ Only [] w w' := by
  by_cases hr : refsOk i refs = false
  · rw [show checkI x i refs = 2 from if_pos hr]
    obtain ⟨W1, hW⟩ : ∃ W, W = w.alloc (.cells (mC x rv vv bv).toArray 28) := ⟨_, rfl⟩
    have oW := hid (show Only [] w W1 from hW ▸ ((Only.refl [] w).alloc _))
    have HW := hid hW
    clear hW hV hx hm hf
    unfold mV
    cases i
    · unfold refsOk inI at hr
      simp only [Bool.false_eq_true, if_false] at hr
      by_cases h1 : refs < 1
      · have d1 : decide (refs < 1) = true := decide_eq_true h1
        clear hr h1
        go_enter Tryd.func11, Tryd.ntmps11
        go_wp2_with (refine wp_box rfl 28 (.tmp 0) rfl (mC x rv vv bv).toArray rfl HW.out rfl ?_; simp only [Act.put, List.setIfInBounds_toArray, List.set_cons_zero, List.set_cons_succ])
        go_ret
        exact ⟨rfl, oW.out⟩
      · have h2 : 32 < refs := by
          rw [decide_eq_true (by omega : 1 ≤ refs), Bool.true_and] at hr
          have := of_decide_eq_false hr
          omega
        have d1 : decide (refs < 1) = false := decide_eq_false h1
        have d2 : decide (32 < refs) = true := decide_eq_true h2
        clear hr h1 h2
        go_enter Tryd.func11, Tryd.ntmps11
        go_wp2_with (refine wp_box rfl 28 (.tmp 0) rfl (mC x rv vv bv).toArray rfl HW.out rfl ?_; simp only [Act.put, List.setIfInBounds_toArray, List.set_cons_zero, List.set_cons_succ])
        go_ret
        exact ⟨rfl, oW.out⟩
    · unfold refsOk at hr
      simp only [if_true] at hr
      have n1 : (refs != 0) = true := by simpa using hr
      have n2 : (refs == 0) = false := by simpa using hr
      clear hr
      go_enter Tryd.func11, Tryd.ntmps11
      go_wp2_with (refine wp_box rfl 28 (.tmp 0) rfl (mC x rv vv bv).toArray rfl HW.out rfl ?_; simp only [Act.put, List.setIfInBounds_toArray, List.set_cons_zero, List.set_cons_succ])
      go_ret
      exact ⟨rfl, oW.out⟩
  · have hr' : refsOk i refs = true := by simpa using hr
    have rb : 0 ≤ refs ∧ refs ≤ 32 := by
      cases i
      · unfold refsOk inI at hr'
        simp at hr'
        omega
      · unfold refsOk at hr'
        simp at hr'
        omega
    by_cases hk : kindOk x.kind i = false
    · rw [show checkI x i refs = 9 from by unfold checkI; rw [if_neg hr, if_pos hk]]
      obtain ⟨W1, hW⟩ : ∃ W, W = w.alloc (.cells (mC x rv vv bv).toArray 28) := ⟨_, rfl⟩
      have BX := hid (show Blk W1 w.heap.size 28 (mC x rv vv bv).toArray from hW ▸ Blk.new w _ _)
      have oW := hid (show Only [] w W1 from hW ▸ ((Only.refl [] w).alloc _))
      obtain ⟨Z, hZ⟩ : ∃ Z, Z = w.heap.size := ⟨_, rfl⟩
      rw [← hZ] at BX
      have HW := hid hW
      have HZ := hid hZ
      have c0 := BX.out.cell (i := 0) (v := .int .u8 x.kind) rfl
      have INT := hid (fun w => pintra_any x.kind w)
      clear hW hV hx hm hf hZ hr
      unfold kindOk at hk
      unfold mV
      cases i
      · unfold refsOk inI at hr'
        simp only [Bool.false_eq_true, if_false, Bool.and_eq_true, decide_eq_true_eq] at hr'
        have d1 : decide (refs < 1) = false := decide_eq_false (by omega)
        have d2 : decide (32 < refs) = false := decide_eq_false (by omega)
        have k7 : decide (7 < x.kind) = true := by
          simp at hk
          exact decide_eq_true (by omega)
        clear hr' hk rb
        go_enter Tryd.func11, Tryd.ntmps11
        go_wp2_with (refine wp_box rfl 28 (.tmp 0) rfl (mC x rv vv bv).toArray rfl HW.out HZ.out ?_; simp only [Act.put, List.setIfInBounds_toArray, List.set_cons_zero, List.set_cons_succ])
        go_ret
        exact ⟨rfl, oW.out⟩
      · unfold refsOk at hr'
        simp only [if_true, decide_eq_true_eq] at hr'
        subst hr'
        by_cases h7 : 7 < x.kind
        · have k7 : decide (7 < x.kind) = true := decide_eq_true h7
          clear hk rb h7
          go_enter Tryd.func11, Tryd.ntmps11
          go_wp2_with (refine wp_box rfl 28 (.tmp 0) rfl (mC x rv vv bv).toArray rfl HW.out HZ.out ?_; simp only [Act.put, List.setIfInBounds_toArray, List.set_cons_zero, List.set_cons_succ])
          go_ret
          exact ⟨rfl, oW.out⟩
        · have k7 : decide (7 < x.kind) = false := decide_eq_false h7
          have ki : intraI x.kind = false := by
            rw [decide_eq_true (by omega : x.kind ≤ 7)] at hk
            simpa using hk
          rw [ki] at INT
          clear hk rb h7 ki
          go_enter Tryd.func11, Tryd.ntmps11
          go_wp2_with (refine wp_box rfl 28 (.tmp 0) rfl (mC x rv vv bv).toArray rfl HW.out HZ.out ?_; simp only [Act.put, List.setIfInBounds_toArray, List.set_cons_zero, List.set_cons_succ])
          refine (INT.out _).mono ?_
          rintro e w2 ⟨rfl, rfl⟩
          go_wp2_with fail
          go_ret
          exact ⟨rfl, oW.out⟩
    · have hk' : kindOk x.kind i = true := by simpa using hk
      have k7 : x.kind ≤ 7 := by unfold kindOk at hk'; rw [Bool.and_eq_true] at hk'; exact of_decide_eq_true hk'.1
      rw [show checkI x i refs = firstE (errsP x refs) from by unfold checkI; rw [if_neg hr, if_neg hk, errs_all x refs hx k7]]
      exact pcheck_yes x rv vv bv i refs w hV hx hm hf rb.1 rb.2 hr' hk'
theorem size13_any (c : Int) (w : World) (hV : MbV w) (c0 : 0 ≤ c) (c1 : c ≤ 255) : Calls Tryd.prog 24 #[.int .u8 c] w fun e w' => e = .returned (.tuple #[.int .i64 (sizeI c).1, .int .i64 (sizeI c).2]) ∧ Only [] w w' :=
  (psize_any c w hV c0 c1).mono (fun e w' ⟨h1, h2⟩ => ⟨h1, h2 ▸ Only.refl _ _⟩)
end Go.Proofs.YtpmmnjeomdjakaaDoor

/- The program's Copy. -/
import Derived.Test.YtfmfknjjhemnoaaNrE
namespace Go.Proofs.Ytfmfknjjhemnoaa
open Go.RowKit
set_option linter.unusedVariables false
set_option linter.unusedSimpArgs false

/-- The blocks, of which those before i are copied; the others' headers are as they were. -/
def CpB (B : Nat) (sv : Value) (vs0 : List SlV) (bs : List (List Int)) (i : Nat) (w : World) : Prop :=
  ∃ us : List SlV, us.length = vs0.length ∧ RowG slC 1 36 w sv us ∧ ∀ (j : Nat) (v : SlV) (y : List Int), us[j]? = some v → bs[j]? = some y → if j < i then RowI w v.sl y ∧ ∀ g, g ∈ ownI v.sl → B ≤ g ∧ g ∉ ownG sv else vs0[j]? = some v
set_option maxRecDepth 1000000 in
set_option maxHeartbeats 8000000 in
theorem copy13_any (x : MV) (rv vv bv : Value) (w : World) (hm : MAt w x rv vv bv) (l1 : x.refs.length ≤ 1000000) (l2 : x.mvds.length ≤ 1000000) (l3 : x.blocks.length ≤ 100000) (l4 : ∀ l, l ∈ x.blocks → l.length ≤ 17592186043904) :
    Calls Try.prog 33 #[mV x rv vv bv] w fun e w' => ∃ rv' vv' bv', e = .returned (mV x rv' vv' bv') ∧ OwnM w w' x rv' vv' bv' := by
  obtain ⟨W, hW⟩ : ∃ W, W = (w.alloc (.cells (mC x rv vv bv).toArray 40)).alloc (.cells (mC m0 (.slice none 0 0) (.slice none 0 0) (.slice none 0 0)).toArray 40) := ⟨_, rfl⟩
  have oW : Only [] w W := hW ▸ (((Only.refl [] w).alloc _).alloc _)
  have bX : Blk W w.heap.size 40 (mC x rv vv bv).toArray := hW ▸ ((Blk.new w _ _).only ((Only.refl [] _).alloc _) (by simp))
  have bR : Blk W (w.heap.size + 1) 40 (mC m0 (.slice none 0 0) (.slice none 0 0) (.slice none 0 0)).toArray := by
    have := Blk.new (w.alloc (.cells (mC x rv vv bv).toArray 40)) 40 (mC m0 (.slice none 0 0) (.slice none 0 0) (.slice none 0 0)).toArray
    rw [World.size_alloc] at this
    exact hW ▸ this
  have OW := hid oW
  have BX := hid bX
  have BR := hid bR
  obtain ⟨us0, hu, hul, hh⟩ := hm.b
  have HM := hid hm
  have HH := hid hh
  have UL := hid hul
  have C1 := hid (fun w' (o : Only [] W w') => clonei_any rv x.refs w' (hm.r.only0 (oW.trans o)) (by omega))
  have C2 := hid (fun w' (o : Only [] W w') => clonev_any vv x.mvds w' (hm.v.only0 (oW.trans o)) l2)
  have C3 := hid (fun w' (o : Only [] W w') => cloneb_any bv us0 w' (hu.only0 (oW.trans o)) (by omega))
  have L4 := hid l4
  have L3 := hid l3
  obtain ⟨p, hp⟩ : ∃ p, p = w.heap.size := ⟨_, rfl⟩
  have PW := hid (show p < W.heap.size ∧ p + 1 < W.heap.size ∧ p = w.heap.size from ⟨by rw [hp]; exact bX.lt, by rw [hp]; exact bR.lt, hp⟩)
  rw [← hp] at BX BR
  have XC := hid (fun w' (o : Only [] W w') => And.intro ((BX.out.only o (by simp)).cell (i := 23) (v := rv) rfl) (And.intro ((BX.out.only o (by simp)).cell (i := 24) (v := vv) rfl) ((BX.out.only o (by simp)).cell (i := 27) (v := bv) rfl)))
  clear hm l1 l2 l3 l4 oW bX bR hu hh hul
  have HW := hid hW
  clear hW
  unfold mV
  go_enter Try.func33, Try.ntmps33
  go_upto_region 1 with (fail)
  generalize hw : (w.alloc _).alloc _ = W'
  obtain rfl : W = W' := HW.out.trans hw
  rw [← hp]
  clear hw hp HW
  refine wp_region_tail (fun w' => Only [] W w') 10 15 (by kernel_rfl) rfl (Only.refl [] W).drew (fun hS => ?_)
  generalize W.drew = wd at *
  refine wpAnyT_take 0 (v := ?va0) rfl (by kernel_rfl) (fun _ _ _ h => h) (Or.inl ⟨by rfl, ?ya0⟩) hS ?ra0
  case ya0 =>
    intro w hSw
    obtain ⟨hc1, hc2, hc3⟩ := XC.out w hSw
    go_simp
    (try with_reducible rfl)
  (try simp only [Act.put, List.setIfInBounds_toArray, List.set_cons_zero, List.set_cons_succ])
  refine wpAnyT_take 1 (v := ?va1) rfl (by kernel_rfl) (fun _ _ _ h => h) (Or.inl ⟨by rfl, ?ya1⟩) hS ?ra1
  case ya1 =>
    intro w hSw
    obtain ⟨hc1, hc2, hc3⟩ := XC.out w hSw
    go_simp
    (try with_reducible rfl)
  (try simp only [Act.put, List.setIfInBounds_toArray, List.set_cons_zero, List.set_cons_succ])
  refine wpAnyT_take 3 (v := ?va3) rfl (by kernel_rfl) (fun _ _ _ h => h) (Or.inl ⟨by rfl, ?ya3⟩) hS ?ra3
  case ya3 =>
    intro w hSw
    obtain ⟨hc1, hc2, hc3⟩ := XC.out w hSw
    go_simp
    (try with_reducible rfl)
  (try simp only [Act.put, List.setIfInBounds_toArray, List.set_cons_zero, List.set_cons_succ])
  refine wpAnyT_take 4 (v := ?va4) rfl (by kernel_rfl) (fun _ _ _ h => h) (Or.inl ⟨by rfl, ?ya4⟩) hS ?ra4
  case ya4 =>
    intro w hSw
    obtain ⟨hc1, hc2, hc3⟩ := XC.out w hSw
    go_simp
    (try with_reducible rfl)
  (try simp only [Act.put, List.setIfInBounds_toArray, List.set_cons_zero, List.set_cons_succ])
  refine wpAnyT_take 6 (v := ?va6) rfl (by kernel_rfl) (fun _ _ _ h => h) (Or.inl ⟨by rfl, ?ya6⟩) hS ?ra6
  case ya6 =>
    intro w hSw
    obtain ⟨hc1, hc2, hc3⟩ := XC.out w hSw
    go_simp
    (try with_reducible rfl)
  (try simp only [Act.put, List.setIfInBounds_toArray, List.set_cons_zero, List.set_cons_succ])
  refine wpAnyT_take 7 (v := ?va7) rfl (by kernel_rfl) (fun _ _ _ h => h) (Or.inl ⟨by rfl, ?ya7⟩) hS ?ra7
  case ya7 =>
    intro w hSw
    obtain ⟨hc1, hc2, hc3⟩ := XC.out w hSw
    go_simp
    (try with_reducible rfl)
  (try simp only [Act.put, List.setIfInBounds_toArray, List.set_cons_zero, List.set_cons_succ])
  refine wpAnyT_call 2 rfl (by kernel_rfl) (fun K hK => ?_)
  go_simp
  refine (C1.out _ hS).mono ?_
  rintro e w3 ⟨fr, rfl, r1, n1, o_w3⟩
  have hS3 : Only [] W w3 := hS.trans o_w3
  refine hK.out _ _ hS3 ?_
  clear hK K
  (try simp only [Act.put, List.setIfInBounds_toArray, List.set_cons_zero, List.set_cons_succ])
  refine wpAnyT_take 9 (v := ?va9) rfl (by kernel_rfl) (fun _ _ _ h => h) (Or.inl ⟨by rfl, ?ya9⟩) hS3 ?ra9
  case ya9 =>
    intro w hSw
    obtain ⟨hc1, hc2, hc3⟩ := XC.out w hSw
    go_simp
    (try with_reducible rfl)
  (try simp only [Act.put, List.setIfInBounds_toArray, List.set_cons_zero, List.set_cons_succ])
  refine wpAnyT_call 5 rfl (by kernel_rfl) (fun K hK => ?_)
  go_simp
  refine (C2.out _ hS3).mono ?_
  rintro e w4 ⟨fv, rfl, r2, n2, o_w4⟩
  have hS4 : Only [] W w4 := hS3.trans o_w4
  refine hK.out _ _ hS4 ?_
  clear hK K
  (try simp only [Act.put, List.setIfInBounds_toArray, List.set_cons_zero, List.set_cons_succ])
  refine wpAnyT_call 8 rfl (by kernel_rfl) (fun K hK => ?_)
  go_simp
  refine (C3.out _ hS4).mono ?_
  rintro e w5 ⟨fb, rfl, r3, n3, o_w5⟩
  have hS5 : Only [] W w5 := hS4.trans o_w5
  refine hK.out _ _ hS5 ?_
  clear hK K
  (try simp only [Act.put, List.setIfInBounds_toArray, List.set_cons_zero, List.set_cons_succ])
  obtain ⟨a1, k1, rfl⟩ := r1.form
  obtain ⟨a2, k2, e2, _⟩ := r2.holds vcC_ok
  subst e2
  obtain ⟨a3, k3, e3, _⟩ := r3.holds slC_ok
  subst e3
  have R1 := hid (show RowI w5 (.slice a1 x.refs.length k1) x.refs from (r1.only0 o_w4).only0 o_w5)
  have R2 := hid (show RowG vcC 2 71 w5 (.slice a2 x.mvds.length k2) x.mvds from r2.only o_w5 (by simp))
  have R3 := hid (show RowG slC 1 36 w5 (.slice a3 us0.length k3) us0 from r3)
  have N1 := hid (show ∀ g, g ∈ ownI (.slice a1 x.refs.length k1) → W.heap.size ≤ g ∧ g ∉ ownG (.slice a3 us0.length k3) from fun g h => ⟨Nat.le_trans hS.size (n1 g h), fun h2 => by have := r1.lt g h; have := n3 g h2; have := o_w4.size; omega⟩)
  have N2 := hid (show ∀ g, g ∈ ownG (.slice a2 x.mvds.length k2) → W.heap.size ≤ g ∧ g ∉ ownG (.slice a3 us0.length k3) from fun g h => ⟨Nat.le_trans hS3.size (n2 g h), fun h2 => by have := r2.lt g h; have := n3 g h2; omega⟩)
  have N3 := hid (show ∀ g, g ∈ ownG (.slice a3 us0.length k3) → W.heap.size ≤ g from fun g h => Nat.le_trans hS4.size (n3 g h))
  refine wpAnyT_tail _ rfl (by kernel_rfl) ?_
  simp only [List.drop_succ_cons, List.drop_zero]
  have b5 := BX.out.only hS5 (by simp)
  have q5 := BR.out.only hS5 (by simp)
  have x23 := b5.cell (i := 23) (v := rv) rfl
  have y23 := b5.frozen 23
  have x24 := b5.cell (i := 24) (v := vv) rfl
  have y24 := b5.frozen 24
  have x27 := b5.cell (i := 27) (v := bv) rfl
  have y27 := b5.frozen 27
  have O6 : Only [p] w5 (((w5.setCell ⟨p, 23, none⟩ (.slice a1 x.refs.length k1)).setCell ⟨p, 24, none⟩ (.slice a2 x.mvds.length k2)).setCell ⟨p, 27, none⟩ (.slice a3 us0.length k3)) := (((Only.refl _ _).setCell (.inl (by simp)) _).setCell (.inl (by simp)) _).setCell (.inl (by simp)) _
  have b6 : Blk (((w5.setCell ⟨p, 23, none⟩ (.slice a1 x.refs.length k1)).setCell ⟨p, 24, none⟩ (.slice a2 x.mvds.length k2)).setCell ⟨p, 27, none⟩ (.slice a3 us0.length k3)) p 40 (mC x (.slice a1 x.refs.length k1) (.slice a2 x.mvds.length k2) (.slice a3 us0.length k3)).toArray := ((b5.set 23 _).set 24 _).set 27 _
  have q6 := q5.only O6 (by simp)
  have S5 := hid hS5
  clear hS hS3 hS4 hS5 r1 r2 r3 n1 n2 n3 o_w3 o_w4 o_w5 b5 q5
  go_upto_region 2 with (fail)
  obtain ⟨w6, hw6⟩ : ∃ w6, w6 = (((w5.setCell ⟨p, 23, none⟩ (.slice a1 x.refs.length k1)).setCell ⟨p, 24, none⟩ (.slice a2 x.mvds.length k2)).setCell ⟨p, 27, none⟩ (.slice a3 us0.length k3)) := ⟨_, rfl⟩
  rw [← hw6] at O6 b6 q6 ⊢
  clear hw6 x23 y23 x24 y24 x27 y27
  -- the world behind the stores
  have np : ∀ g, W.heap.size ≤ g → g ∉ [p] := fun g hg h => by have := PW.out; simp at h; omega
  have R1 := hid (R1.out.only O6 (fun g hg => np g (N1.out g hg).1))
  have R2 := hid (R2.out.only O6 (fun g hg => np g (N2.out g hg).1))
  have R3 := hid (R3.out.only O6 (fun g hg => np g (N3.out g hg)))
  have O6W := hid (show Only [] w w6 from (OW.out.trans S5.out).trans2 O6 (fun g hg => .inr (by have := PW.out; simp at hg; omega)))
  have B6 := hid b6
  have Q6 := hid q6
  have WS := hid (show W.heap.size ≤ w6.heap.size from Nat.le_trans S5.out.size O6.size)
  obtain ⟨n, hn⟩ : ∃ n, n = us0.length := ⟨_, rfl⟩
  have HN := hid hn
  rw [← hn] at B6 N1 N2 N3 R3 ⊢
  have nb : (n : Int) ≤ 100000 := by have := L3.out; have := UL.out; omega
  have c27 := B6.out.cell (i := 27) (v := .slice a3 n k3) rfl
  clear b6 q6 O6 np hn
  go_wp2_with fail
  go_loopg [19] n (fun g t wr => ∃ i : Nat, i + g = n ∧ t = .int .i64 i ∧ CpB W.heap.size (.slice a3 n k3) us0 x.blocks i wr ∧ Only (ownG (.slice a3 n k3)) w6 wr)
  case atStart => exact ⟨0, by omega, rfl, ⟨us0, rfl, R3.out, fun j v y hv hy => by rw [if_neg (by omega)]; exact hv⟩, Only.refl _ _⟩
  case round =>
    obtain ⟨i, hi, rfl, hX, hO⟩ := hrel
    have X := hid hX
    have O := hid hO
    clear hX hO c27
    have PB : p ∉ ownG (.slice a3 n k3) := fun h => by have := N3.out p h; have := PW.out; omega
    have QB : p + 1 ∉ ownG (.slice a3 n k3) := fun h => by have := N3.out (p + 1) h; have := PW.out; omega
    have bX := B6.out.only O.out PB
    have qX := Q6.out.only O.out QB
    have BXR := hid bX
    have QXR := hid qX
    have i0 : (0 : Int) ≤ (i : Int) := by omega
    clear PB QB
    by_cases hg : gk = 0
    · have i1 : ¬ (i : Int) < (n : Int) := by omega
      have ie : i = n := by omega
      have XF := hid (show CpB W.heap.size (.slice a3 n k3) us0 x.blocks n wr from by have := X.out; rw [ie] at this; exact this)
      clear hi hg X ie BXR QXR
      go_wp2_with (first
        | (refine load_atA rfl 40 (.tmp 1) rfl ⟨p, 0, none⟩ (mC x (.slice a1 x.refs.length k1) (.slice a2 x.mvds.length k2) (.slice a3 n k3)) rfl bX.mb ?_; simp only [Act.put, List.setIfInBounds_toArray, List.set_cons_zero, List.set_cons_succ])
        | (refine store_blk rfl 40 _ _ rfl (p + 1) 0 _ _ (mC x (.slice a1 x.refs.length k1) (.slice a2 x.mvds.length k2) (.slice a3 n k3)) rfl rfl (info_mb' _ _ _ _) qX (by simp [mC]) (one_mC _ rfl rfl rfl) ?_; intro w7 hB7 hO7))
      rw [setsA_full (by simp [mC])] at hB7
      refine bodyPost_ret (v := mV x (.slice a1 x.refs.length k1) (.slice a2 x.mvds.length k2) (.slice a3 n k3)) (res_c rfl rfl (lv_mb hB7)) rfl ⟨_, _, _, rfl, ?_⟩
      have nq : ∀ g, W.heap.size ≤ g → g ∉ [p + 1] := fun g hg h => by have := PW.out; simp at h; omega
      have low : ∀ g, W.heap.size ≤ g → w.heap.size ≤ g := fun g hg => Nat.le_trans OW.out.size hg
      have Owr : Only [] w wr := O6W.out.trans2 O.out (fun g hg => .inr (low g (N3.out g hg)))
      have O7 : Only [] w w7 := Owr.trans2 hO7 (fun g hg => .inr (by have := PW.out; simp at hg; omega))
      obtain ⟨us, u1, u2, u3⟩ := XF.out
      exact ⟨(R1.out.only O.out (fun g hg => (N1.out g hg).2)).only hO7 (fun g hg => nq g (N1.out g hg).1), fun g hg => low g (N1.out g hg).1,
        (R2.out.only O.out (fun g hg => (N2.out g hg).2)).only hO7 (fun g hg => nq g (N2.out g hg).1), fun g hg => low g (N2.out g hg).1,
        us, ⟨u2.only hO7 (fun g hg => nq g (N3.out g hg)), fun g hg => low g (N3.out g hg), O7⟩, u1.trans UL.out, fun j v y hv hy => by
          have h := u3 j v y hv hy
          rw [if_pos (by have := (List.getElem?_eq_some_iff.1 hv).1; have := HN.out; omega)] at h
          exact ⟨h.1.only hO7 (fun g hg => nq g (h.2 g hg).1), fun g hg => ⟨low g (h.2 g hg).1, (h.2 g hg).2⟩⟩⟩
    · obtain ⟨gg, rfl⟩ : ∃ gg, gk = gg + 1 := ⟨gk - 1, by omega⟩
      have IN := hid (show i + 1 + gg = n by omega)
      have i1 : (i : Int) < (n : Int) := by omega
      obtain ⟨us, u1, u2, u3⟩ := X.out
      obtain ⟨v0, hv0⟩ : ∃ v, us[i]? = some v := ⟨_, List.getElem?_eq_getElem (by have := HN.out; omega)⟩
      obtain ⟨y, hy⟩ : ∃ y, x.blocks[i]? = some y := ⟨_, List.getElem?_eq_getElem (by have := HN.out; have := UL.out; omega)⟩
      have old : us0[i]? = some v0 := by have h := u3 i v0 y hv0 hy; rwa [if_neg (by omega)] at h
      obtain ⟨g, rfl⟩ : ∃ g, a3 = some ⟨g, 0, none⟩ := by
        rcases u2.2 with ⟨e, h0⟩ | ⟨g, cap, cur, e, _⟩
        · have := (List.getElem?_eq_some_iff.1 hv0).1; omega
        · cases e; exact ⟨g, rfl⟩
      have U1 := hid u1
      have U2 := hid u2
      have U3 := hid u3
      have OG : ownG (.slice (some ⟨g, 0, none⟩) n k3) = [g] := rfl
      have gW := N3.out g (by rw [OG]; simp)
      have glt := u2.lt g (by rw [OG]; simp)
      have cu0 : wr.cell? ⟨g, i, none⟩ = some v0.sl := by
        obtain ⟨b, o, e, hc⟩ := (show HoldsG slC 1 wr (.slice (some ⟨g, 0, none⟩) n k3) us from u2.holds slC_ok).at hv0
        cases e
        have := hc 0 v0.sl rfl
        rw [Nat.mul_one, Nat.add_zero, Nat.zero_add] at this
        exact this
      have LU := hid (fun w' (o : Only [] wr w') => o.cell cu0 (by simp))
      have L27 := hid (fun w' (o : Only [] wr w') => (BXR.out.only o (by simp)).cell (i := 27) (v := .slice (some ⟨g, 0, none⟩) n k3) rfl)
      have HY := hid (show HoldsI .i64 w v0.sl y from HH.out i v0 y old hy)
      have Owr := hid (show Only [g] w6 wr from OG ▸ O.out)
      have Oall := hid (show Only [g] w wr from (O6W.out.mono (fun _ _ h => by cases h)).trans Owr.out)
      have CL := hid (fun w' (o : Only [] wr w') => clonei_any v0.sl y w' ((HY.out.old Oall.out (fun h hh => by have := OW.out.size; simp at hh; omega)).only0 o) (L4.out y (List.mem_of_getElem? hy)))
      have BY := hid hy
      clear hi hg hv0 hy old u1 u2 u3 bX qX X
      go_wp2_with fail
      refine wp_region_tail (fun w' => Only [] wr w') 9 11 (by kernel_rfl) rfl (Only.refl [] wr).drew (fun hS => ?_)
      generalize wr.drew = wd at *
      refine wpAnyT_take 0 (v := ?vaL0) rfl (by kernel_rfl) (fun _ _ _ h => h) (Or.inl ⟨by rfl, ?yaL0⟩) hS ?raL0
      case yaL0 =>
        intro w hSw
        have c27 := L27.out w hSw
        have cu := LU.out w hSw
        go_simp
        (try with_reducible rfl)
      (try simp only [Act.put, List.setIfInBounds_toArray, List.set_cons_zero, List.set_cons_succ])
      refine wpAnyT_take 1 (v := ?vaL1) rfl (by kernel_rfl) (fun _ _ _ h => h) (Or.inl ⟨by rfl, ?yaL1⟩) hS ?raL1
      case yaL1 =>
        intro w hSw
        have c27 := L27.out w hSw
        have cu := LU.out w hSw
        go_simp
        (try with_reducible rfl)
      (try simp only [Act.put, List.setIfInBounds_toArray, List.set_cons_zero, List.set_cons_succ])
      refine wpAnyT_take 2 (v := ?vaL2) rfl (by kernel_rfl) (fun _ _ _ h => h) (Or.inl ⟨by rfl, ?yaL2⟩) hS ?raL2
      case yaL2 =>
        intro w hSw
        have c27 := L27.out w hSw
        have cu := LU.out w hSw
        go_simp
        (try with_reducible rfl)
      (try simp only [Act.put, List.setIfInBounds_toArray, List.set_cons_zero, List.set_cons_succ])
      refine wpAnyT_take 3 (v := ?vaL3) rfl (by kernel_rfl) (fun _ _ _ h => h) (Or.inl ⟨by rfl, ?yaL3⟩) hS ?raL3
      case yaL3 =>
        intro w hSw
        have c27 := L27.out w hSw
        have cu := LU.out w hSw
        go_simp
        (try with_reducible rfl)
      (try simp only [Act.put, List.setIfInBounds_toArray, List.set_cons_zero, List.set_cons_succ])
      refine wpAnyT_take 4 (v := ?vaL4) rfl (by kernel_rfl) (fun _ _ _ h => h) (Or.inl ⟨by rfl, ?yaL4⟩) hS ?raL4
      case yaL4 =>
        intro w hSw
        have c27 := L27.out w hSw
        have cu := LU.out w hSw
        go_simp
        (try with_reducible rfl)
      (try simp only [Act.put, List.setIfInBounds_toArray, List.set_cons_zero, List.set_cons_succ])
      refine wpAnyT_take 5 (v := ?vaL5) rfl (by kernel_rfl) (fun _ _ _ h => h) (Or.inl ⟨by rfl, ?yaL5⟩) hS ?raL5
      case yaL5 =>
        intro w hSw
        have c27 := L27.out w hSw
        have cu := LU.out w hSw
        go_simp
        (try with_reducible rfl)
      (try simp only [Act.put, List.setIfInBounds_toArray, List.set_cons_zero, List.set_cons_succ])
      refine wpAnyT_take 6 (v := ?vaL6) rfl (by kernel_rfl) (fun _ _ _ h => h) (Or.inl ⟨by rfl, ?yaL6⟩) hS ?raL6
      case yaL6 =>
        intro w hSw
        have c27 := L27.out w hSw
        have cu := LU.out w hSw
        go_simp
        (try with_reducible rfl)
      (try simp only [Act.put, List.setIfInBounds_toArray, List.set_cons_zero, List.set_cons_succ])
      refine wpAnyT_take 7 (v := ?vaL7) rfl (by kernel_rfl) (fun _ _ _ h => h) (Or.inl ⟨by rfl, ?yaL7⟩) hS ?raL7
      case yaL7 =>
        intro w hSw
        have c27 := L27.out w hSw
        have cu := LU.out w hSw
        go_simp
        (try with_reducible rfl)
      (try simp only [Act.put, List.setIfInBounds_toArray, List.set_cons_zero, List.set_cons_succ])
      refine wpAnyT_call 8 rfl (by kernel_rfl) (fun K hK => ?_)
      go_simp
      refine (CL.out _ hS).mono ?_
      rintro e u1 ⟨ns, rfl, row, nw, o1⟩
      have hS2 : Only [] wr u1 := hS.trans o1
      refine hK.out _ _ hS2 ?_
      clear hK K
      (try simp only [Act.put, List.setIfInBounds_toArray, List.set_cons_zero, List.set_cons_succ])
      refine wpAnyT_tail _ rfl (by kernel_rfl) ?_
      simp only [List.drop_succ_cons, List.drop_zero]
      obtain ⟨na, nc, rfl⟩ := row.form
      have cu1 := LU.out u1 hS2
      have fz := ((U2.out.only hS2 (by simp)).frozen g (by rw [OG]; simp)) i
      have ST : Only [g] u1 (u1.setCell ⟨g, i, none⟩ (.slice na y.length nc)) := (Only.refl _ _).setCell (.inl (by simp)) _
      have far : ∀ h, h ∈ ownI (.slice na y.length nc) → wr.heap.size ≤ h ∧ h ∉ [g] := fun h hh => by have := nw h hh; have := hS.size; exact ⟨by omega, fun e => by simp at e; omega⟩
      have NX := hid (show CpB W.heap.size (.slice (some ⟨g, 0, none⟩) n k3) us0 x.blocks (i + 1) (u1.setCell ⟨g, i, none⟩ (.slice na y.length nc)) from by
        refine ⟨us.set i (na, y.length, nc), by rw [List.length_set]; exact U1.out, (U2.out.only hS2 (by simp)).set1 i (na, y.length, nc) (by have := U1.out; have := HN.out; omega), fun j v z hv hz => ?_⟩
        by_cases hj : j = i
        · subst hj
          rw [if_pos (by omega)]
          have e : v = (na, y.length, nc) := by
            rw [List.getElem?_set_self (by have := U1.out; have := HN.out; omega)] at hv
            exact (Option.some.inj hv).symm
          subst e
          obtain rfl : y = z := Option.some.inj (BY.out.symm.trans hz)
          exact ⟨row.only ST (fun h hh => (far h hh).2), fun h hh => ⟨by have := (far h hh).1; have := WS.out; have := Owr.out.size; omega, by rw [OG]; exact (far h hh).2⟩⟩
        · rw [List.getElem?_set_ne (fun e => hj e.symm)] at hv
          have h := U3.out j v z hv hz
          by_cases hl : j < i
          · rw [if_pos hl] at h
            rw [if_pos (by omega)]
            exact ⟨(h.1.only0 hS2).only ST (fun q hq => by have := (h.2 q hq).2; rwa [OG] at this), h.2⟩
          · rw [if_neg hl] at h
            rw [if_neg (by omega)]
            exact h)
      have NO := hid (show Only (ownG (.slice (some ⟨g, 0, none⟩) n k3)) w6 (u1.setCell ⟨g, i, none⟩ (.slice na y.length nc)) from by rw [OG]; exact Owr.out.trans ((hS2.mono (fun _ _ h => by cases h)).trans ST))
      clear ST far row nw o1 hS2 hS
      go_wp2_with fail
      go_roundg gg
      case measure => omega
      case rel => exact ⟨i + 1, IN.out, by go_num, NX.out, NO.out⟩
end Go.Proofs.Ytfmfknjjhemnoaa

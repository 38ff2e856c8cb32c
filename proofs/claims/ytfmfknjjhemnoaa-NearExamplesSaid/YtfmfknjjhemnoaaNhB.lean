/- The laws' made, Few. -/
import Derived.Test.YtfmfknjjhemnoaaNhA
namespace Go.Proofs.Ytfmfknjjhemnoaa
open Go.RowKit
set_option linter.unusedVariables false
set_option linter.unusedSimpArgs false

/-- Macroblocks that come in: small ones, in a slice. -/
structure LIn (w : World) (b : Value) (us : List El) : Prop where
  h : HoldsG elC 29 w b us
  e : ∀ e, e ∈ us → EAt w e
theorem LIn.only0 {w w' : World} {b : Value} {us : List El} (h : LIn w b us) (k : Only [] w w') : LIn w' b us := ⟨h.h.only0 k, fun e he => (h.e e he).only0 k⟩
theorem map_take_succ {us : List El} {i : Nat} {u : El} (h : us[i]? = some u) : (us.map (·.1)).take (i + 1) = (us.map (·.1)).take i ++ [u.1] := by
  have hx : (us.map (·.1))[i]? = some u.1 := by rw [List.getElem?_map, h]; rfl
  obtain ⟨hl, hx⟩ := List.getElem?_eq_some_iff.1 hx
  rw [List.take_succ_eq_append_getElem hl, hx]
set_option maxRecDepth 1000000 in
set_option maxHeartbeats 4000000 in
theorem made_bad (f wd : Int) (b : Value) (w : World) (h : ¬ okN f wd) : Calls Try.prog 25 #[.int .i64 f, .int .i64 wd, b] w fun e w' => e = .returned (.pointer none) ∧ Only [] w w' := by
  have NW := hid (new_no f wd w h)
  clear h
  go_enter Try.func25, Try.ntmps25
  go_wp2_with fail
  refine NW.out.mono ?_
  rintro e w1 ⟨rfl, rfl⟩
  go_wp2_with fail
  go_ret
  exact ⟨rfl, Only.refl _ _⟩
set_option maxRecDepth 1000000 in
set_option maxHeartbeats 4000000 in
theorem made_yes (f wd : Int) (b : Value) (us : List El) (w : World) (h : okN f wd) (hb : LIn w b us) (hs : ∀ e, e ∈ us → MSm e.1) (hl : us.length ≤ 100) (hn : f + us.length ≤ 8160) :
    Calls Try.prog 25 #[.int .i64 f, .int .i64 wd, b] w fun e w' => NewN 59 w w' f wd (us.map (·.1)) e := by
  have NW := hid (new_any f wd w h)
  have f1 := h.2.1
  have HB := hid hb
  have HS := hid hs
  obtain ⟨a, c, rfl, _⟩ := hb.h
  obtain ⟨n, hn'⟩ : ∃ n, n = us.length := ⟨_, rfl⟩
  have N0 := hid hn'
  rw [← hn'] at hn ⊢
  have HN := hid hn
  have nb : (n : Int) ≤ 100 := by omega
  clear h hn hb hs hl hn'
  go_enter Try.func25, Try.ntmps25
  go_wp2_with fail
  refine NW.out.mono ?_
  rintro e w1 ⟨rfl, hN, o1⟩
  have N1 := hid hN
  have O1 := hid o1
  obtain ⟨p, hp⟩ : ∃ p, p = w.heap.size := ⟨_, rfl⟩
  rw [← hp] at N1 ⊢
  have HP := hid hp
  clear hN o1 hp
  go_wp2_with fail
  go_loopg [9] n (fun g t wr => ∃ i : Nat, i + g = n ∧ t = .int .i64 i ∧ ∃ F, NAt 59 F wr p f wd ((us.map (·.1)).take i) ∧ (∀ g, F g → w.heap.size ≤ g) ∧ Only [] w wr)
  case atStart => exact ⟨0, by omega, rfl, _, N1.out, fun g hg => by have := HP.out; omega, O1.out⟩
  case round =>
    obtain ⟨i, hi, rfl, F, hN, hF, hO⟩ := hrel
    have NN := hid hN
    have FF := hid hF
    have OO := hid hO
    clear hN hF hO
    have i0 : (0 : Int) ≤ (i : Int) := by omega
    by_cases hg : gk = 0
    · have i1 : ¬ (i : Int) < (n : Int) := by omega
      have ie : i = n := by omega
      have NF := hid (show NAt 59 F wr p f wd (us.map (·.1)) from by have := NN.out; rwa [List.take_of_length_le (by rw [List.length_map]; have := N0.out; omega)] at this)
      clear hi hg ie
      go_wp2_with fail
      go_ret
      exact ⟨p, F, rfl, NF.out, FF.out, OO.out⟩
    · obtain ⟨gg, rfl⟩ : ∃ gg, gk = gg + 1 := ⟨gk - 1, by omega⟩
      have IN := hid (show i + 1 + gg = n by omega)
      have i1 : (i : Int) < (n : Int) := by omega
      have i2 : 0 ≤ (i : Int) ∧ (i : Int) < (n : Int) := ⟨i0, i1⟩
      obtain ⟨u, hu⟩ : ∃ u, us[i]? = some u := ⟨_, List.getElem?_eq_getElem (by have := N0.out; omega)⟩
      have A1 := (HB.out.only0 OO.out).e u (List.mem_of_getElem? hu)
      have X1 := (HB.out.only0 OO.out).h
      have SX := HS.out u (List.mem_of_getElem? hu)
      have TK := hid (map_take_succ hu)
      obtain ⟨ga, oa, rfl, ca⟩ := X1.at hu
      obtain ⟨x, r1, r2, r3⟩ := u
      have SX : MSm x := SX
      have SM := hid SX
      have LA := hid (ho_mb (w := wr) (k := ga) (off := oa + i * 29) (x := x) (rv := r1.sl) (vv := r2.sl) (bv := r3.sl) ca)
      have CC := hid (copymb_any x r1.sl r2.sl r3.sl wr A1 (by have := SX.r; omega) (by have := SX.v; omega) (by have := SX.b; omega) (fun l hl => by have := SX.i l hl; omega))
      have LT : ((us.map (·.1)).take i).length = i := by rw [List.length_take, List.length_map]; have := N0.out; omega
      have AD := hid (fun rv vv bv w' (o : Only [] wr w') (hm : MAt w' x rv vv bv) (hf : f + i < 8160) => add_yes x rv vv bv w' (NN.out.only0 o) (by rw [LT]; exact hf) hm SX)
      have AN := hid (fun rv vv bv w' (o : Only [] wr w') (hf : 8160 ≤ f + i) => add_long x rv vv bv w' (NN.out.only0 o) (by rw [LT]; omega))
      clear hi hg hu A1 X1 SX ca
      go_wp2_with (refine load_atA rfl 40 (.tmp 31) rfl ⟨ga, oa + i * 29, none⟩ (mC x r1.sl r2.sl r3.sl) rfl LA.out ?_; simp only [Act.put, List.setIfInBounds_toArray, List.set_cons_zero, List.set_cons_succ])
      refine CC.out.mono ?_
      rintro e w2 ⟨rv, vv, bv, rfl, ow⟩
      have OW := hid ow
      clear ow
      go_wp2_with fail
      have HF : f + (i : Int) < 8160 := by have := HN.out; omega
      refine (AD.out rv vv bv w2 OW.out.only OW.out.at HF).mono ?_
      rintro e w3 ⟨rfl, G⟩
      rw [← TK.out] at G
      have NX := hid (G.new (OO.out.trans OW.out.only) FF.out)
      clear G
      go_wp2_with fail
      go_roundg gg
      case measure => omega
      case rel => exact ⟨i + 1, IN.out, by go_num, NX.out⟩
set_option maxRecDepth 1000000 in
set_option maxHeartbeats 4000000 in
theorem made_long (f wd : Int) (b : Value) (us : List El) (w : World) (h : okN f wd) (hb : LIn w b us) (hs : ∀ e, e ∈ us → MSm e.1) (hl : us.length ≤ 100) (hn : ¬ f + us.length ≤ 8160) :
    Calls Try.prog 25 #[.int .i64 f, .int .i64 wd, b] w fun e w' => e = .returned (.pointer none) ∧ Only [] w w' := by
  have NW := hid (new_any f wd w h)
  have f1 := h.2.1
  have HB := hid hb
  have HS := hid hs
  obtain ⟨a, c, rfl, _⟩ := hb.h
  obtain ⟨n, hn'⟩ : ∃ n, n = us.length := ⟨_, rfl⟩
  have N0 := hid hn'
  rw [← hn'] at hn ⊢
  have HN := hid hn
  have nb : (n : Int) ≤ 100 := by omega
  clear h hn hb hs hl hn'
  go_enter Try.func25, Try.ntmps25
  go_wp2_with fail
  refine NW.out.mono ?_
  rintro e w1 ⟨rfl, hN, o1⟩
  have N1 := hid hN
  have O1 := hid o1
  obtain ⟨p, hp⟩ : ∃ p, p = w.heap.size := ⟨_, rfl⟩
  rw [← hp] at N1 ⊢
  have HP := hid hp
  clear hN o1 hp
  go_wp2_with fail
  go_loopg [9] n (fun g t wr => ∃ i : Nat, i + g = n ∧ t = .int .i64 i ∧ ∃ F, NAt 59 F wr p f wd ((us.map (·.1)).take i) ∧ (∀ g, F g → w.heap.size ≤ g) ∧ Only [] w wr)
  case atStart => exact ⟨0, by omega, rfl, _, N1.out, fun g hg => by have := HP.out; omega, O1.out⟩
  case round =>
    obtain ⟨i, hi, rfl, F, hN, hF, hO⟩ := hrel
    have NN := hid hN
    have FF := hid hF
    have OO := hid hO
    clear hN hF hO
    have i0 : (0 : Int) ≤ (i : Int) := by omega
    by_cases hg : gk = 0
    · have i1 : ¬ (i : Int) < (n : Int) := by omega
      have ie : i = n := by omega
      have NF := hid (show NAt 59 F wr p f wd (us.map (·.1)) from by have := NN.out; rwa [List.take_of_length_le (by rw [List.length_map]; have := N0.out; omega)] at this)
      exfalso
      have := NF.out.n
      rw [List.length_map, ← N0.out] at this
      have := HN.out
      omega
    · obtain ⟨gg, rfl⟩ : ∃ gg, gk = gg + 1 := ⟨gk - 1, by omega⟩
      have IN := hid (show i + 1 + gg = n by omega)
      have i1 : (i : Int) < (n : Int) := by omega
      have i2 : 0 ≤ (i : Int) ∧ (i : Int) < (n : Int) := ⟨i0, i1⟩
      obtain ⟨u, hu⟩ : ∃ u, us[i]? = some u := ⟨_, List.getElem?_eq_getElem (by have := N0.out; omega)⟩
      have A1 := (HB.out.only0 OO.out).e u (List.mem_of_getElem? hu)
      have X1 := (HB.out.only0 OO.out).h
      have SX := HS.out u (List.mem_of_getElem? hu)
      have TK := hid (map_take_succ hu)
      obtain ⟨ga, oa, rfl, ca⟩ := X1.at hu
      obtain ⟨x, r1, r2, r3⟩ := u
      have SX : MSm x := SX
      have SM := hid SX
      have LA := hid (ho_mb (w := wr) (k := ga) (off := oa + i * 29) (x := x) (rv := r1.sl) (vv := r2.sl) (bv := r3.sl) ca)
      have CC := hid (copymb_any x r1.sl r2.sl r3.sl wr A1 (by have := SX.r; omega) (by have := SX.v; omega) (by have := SX.b; omega) (fun l hl => by have := SX.i l hl; omega))
      have LT : ((us.map (·.1)).take i).length = i := by rw [List.length_take, List.length_map]; have := N0.out; omega
      have AD := hid (fun rv vv bv w' (o : Only [] wr w') (hm : MAt w' x rv vv bv) (hf : f + i < 8160) => add_yes x rv vv bv w' (NN.out.only0 o) (by rw [LT]; exact hf) hm SX)
      have AN := hid (fun rv vv bv w' (o : Only [] wr w') (hf : 8160 ≤ f + i) => add_long x rv vv bv w' (NN.out.only0 o) (by rw [LT]; omega))
      clear hi hg hu A1 X1 SX ca
      go_wp2_with (refine load_atA rfl 40 (.tmp 31) rfl ⟨ga, oa + i * 29, none⟩ (mC x r1.sl r2.sl r3.sl) rfl LA.out ?_; simp only [Act.put, List.setIfInBounds_toArray, List.set_cons_zero, List.set_cons_succ])
      refine CC.out.mono ?_
      rintro e w2 ⟨rv, vv, bv, rfl, ow⟩
      have OW := hid ow
      clear ow
      go_wp2_with fail
      by_cases HF : f + (i : Int) < 8160
      · refine (AD.out rv vv bv w2 OW.out.only OW.out.at HF).mono ?_
        rintro e w3 ⟨rfl, G⟩
        rw [← TK.out] at G
        have NX := hid (G.new (OO.out.trans OW.out.only) FF.out)
        clear G
        go_wp2_with fail
        go_roundg gg
        case measure => omega
        case rel => exact ⟨i + 1, IN.out, by go_num, NX.out⟩
      · refine (AN.out rv vv bv w2 OW.out.only (by omega)).mono ?_
        rintro e w3 ⟨rfl, o3⟩
        have O3 := hid ((OO.out.trans OW.out.only).trans o3)
        clear o3
        go_wp2_with fail
        go_ret
        exact ⟨rfl, O3.out⟩
/-- Few: no more than so many, and all of them small. -/
def FewR (w w' : World) (us : List El) (most : Int) (e : Ending) : Prop := ∃ r : Bool, e = .returned (.bool r) ∧ (r = true → us.length ≤ most ∧ ∀ e, e ∈ us → MSm e.1) ∧ Only [] w w'
set_option maxRecDepth 1000000 in
set_option maxHeartbeats 4000000 in
theorem few_any (b : Value) (us : List El) (most : Int) (w : World) (hb : LIn w b us) (hm : 0 ≤ most) (hm2 : most ≤ 100) :
    Calls Try.prog 9 #[b, .int .i64 most] w fun e w' => FewR w w' us most e := by
  have HB := hid hb
  obtain ⟨a, c, rfl, h1, h2, _⟩ := id hb.h
  unfold maxLen at h2
  by_cases hq : (us.length : Int) > most
  · clear hb h1
    go_enter Try.func9, Try.ntmps9
    go_wp2_with fail
    go_ret
    exact ⟨false, rfl, by simp, Only.refl _ _⟩
  obtain ⟨n, hn⟩ : ∃ n, n = us.length := ⟨_, rfl⟩
  have N0 := hid hn
  rw [← hn] at hq h1 ⊢
  have nb : (n : Int) ≤ 100 := by omega
  have HQ := hid (show (n : Int) ≤ most by omega)
  clear hb h1 h2 hn
  go_enter Try.func9, Try.ntmps9
  go_wp2_with fail
  go_loopg [5] n (fun g t wr => ∃ i : Nat, i + g = n ∧ t = .int .i64 i ∧ (∀ e, e ∈ us.take i → MSm e.1) ∧ Only [] w wr)
  case atStart => exact ⟨0, by omega, rfl, by simp, Only.refl _ _⟩
  case round =>
    obtain ⟨i, hi, rfl, hS, hO⟩ := hrel
    have SS := hid hS
    have OO := hid hO
    clear hS hO
    have i0 : (0 : Int) ≤ (i : Int) := by omega
    by_cases hg : gk = 0
    · have i1 : ¬ (i : Int) < (n : Int) := by omega
      have SF := hid (show ∀ e, e ∈ us → MSm e.1 from by have := SS.out; rwa [List.take_of_length_le (by have := N0.out; omega)] at this)
      clear hi hg
      go_wp2_with fail
      go_ret
      exact ⟨true, rfl, fun _ => ⟨by rw [← N0.out]; exact HQ.out, SF.out⟩, OO.out⟩
    · obtain ⟨gg, rfl⟩ : ∃ gg, gk = gg + 1 := ⟨gk - 1, by omega⟩
      have IN := hid (show i + 1 + gg = n by omega)
      have i1 : (i : Int) < (n : Int) := by omega
      have i2 : 0 ≤ (i : Int) ∧ (i : Int) < (n : Int) := ⟨i0, i1⟩
      obtain ⟨u, hu⟩ : ∃ u, us[i]? = some u := ⟨_, List.getElem?_eq_getElem (by have := N0.out; omega)⟩
      have A1 := (HB.out.only0 OO.out).e u (List.mem_of_getElem? hu)
      have X1 := (HB.out.only0 OO.out).h
      obtain ⟨ga, oa, rfl, ca⟩ := X1.at hu
      obtain ⟨x, r1, r2, r3⟩ := u
      obtain ⟨ra, rc, er, _⟩ := id A1.r
      obtain ⟨va, vc, ev, _⟩ := id A1.v
      obtain ⟨vs, hv, hvl, hvi⟩ := id A1.b
      obtain ⟨ba, bc, eb, bl1, bl2, _⟩ := id hv
      have er : r1.sl = .slice ra x.refs.length rc := er
      have ev : r2.sl = .slice va x.mvds.length vc := ev
      have eb : r3.sl = .slice ba vs.length bc := eb
      have hvl : vs.length = x.blocks.length := hvl
      have c23 := ca 23 r1.sl rfl
      have c24 := ca 24 r2.sl rfl
      have c27 := ca 27 r3.sl rfl
      have c28 := ca 28 (.string x.pcm) rfl
      rw [er] at c23
      rw [ev] at c24
      rw [eb, hvl] at c27
      have C27 := hid (fun w' (o : Only [] wr w') => o.cell c27 (by simp))
      have HV := hid (fun w' (o : Only [] wr w') => hv.only0 o)
      have VL := hid hvl
      have EB := hid eb
      have HI := hid (fun w' (o : Only [] wr w') (j : Nat) (v : SlV) (y : List Int) (h1 : vs[j]? = some v) (h2 : x.blocks[j]? = some y) => (hvi j v y h1 h2).only0 o)
      have TK := hid (take_oneG us i (by have := N0.out; omega))
      have HU := hid hu
      clear hi hg hu A1 X1 ca hv hvl hvi er ev eb bl1 bl2
      by_cases k1 : (x.refs.length : Int) > 40
      · go_wp2_with fail
        go_ret
        exact ⟨false, rfl, by simp, OO.out⟩
      by_cases k2 : (x.mvds.length : Int) > 40
      · go_wp2_with fail
        go_ret
        exact ⟨false, rfl, by simp, OO.out⟩
      by_cases k3 : (x.blocks.length : Int) > 60
      · go_wp2_with fail
        go_ret
        exact ⟨false, rfl, by simp, OO.out⟩
      by_cases k4 : (x.pcm.size : Int) > 400
      · go_wp2_with fail
        go_ret
        exact ⟨false, rfl, by simp, OO.out⟩
      obtain ⟨m, hm'⟩ : ∃ m, m = x.blocks.length := ⟨_, rfl⟩
      have M0 := hid hm'
      rw [← hm'] at C27 c27 k3
      have K1 := hid k1
      have K2 := hid k2
      have K3 := hid k3
      clear hm'
      go_wp2_with fail
      obtain ⟨wo, hwo⟩ : ∃ wo, wo = wr := ⟨_, rfl⟩
      subst hwo
      clear c23 c24 c27 c28 k1 k2 k3 k4
      go_loopg [6] m (fun g t wi => ∃ k : Nat, k + g = m ∧ t = .int .i64 k ∧ (∀ l, l ∈ x.blocks.take k → l.length ≤ 40) ∧ Only [] wo wi)
      case atStart => exact ⟨0, by omega, rfl, by simp, Only.refl _ _⟩
      case round =>
        obtain ⟨k, hk, rfl, hB, hO⟩ := hrel
        have BB := hid hB
        have OI := hid hO
        clear hB hO
        have k0 : (0 : Int) ≤ (k : Int) := by omega
        have c27 := C27.out _ OI.out
        have kb : (m : Int) ≤ 60 := by have := K3.out; omega
        by_cases hg : gk = 0
        · have k1 : ¬ (k : Int) < (m : Int) := by omega
          have BF := hid (show ∀ l, l ∈ x.blocks → l.length ≤ 40 from by have := BB.out; rwa [List.take_of_length_le (by have := M0.out; omega)] at this)
          clear hk hg
          go_wp2_with fail
          go_roundg gg
          case measure => omega
          case rel =>
            refine ⟨i + 1, IN.out, by go_num, fun e he => ?_, OO.out.trans OI.out⟩
            obtain ⟨u, hu, ht⟩ := TK.out
            rw [ht] at he
            rcases List.mem_append.1 he with h | h
            · exact SS.out e h
            · have := HU.out.symm.trans hu
              simp at h
              rw [h, ← Option.some.inj this]
              exact show MSm x from ⟨by have := K1.out; omega, by have := K2.out; omega, by have := K3.out; have := M0.out; omega, BF.out⟩
        · obtain ⟨hh, rfl⟩ : ∃ hh, gk = hh + 1 := ⟨gk - 1, by omega⟩
          have KN := hid (show k + 1 + hh = m by omega)
          have k1 : (k : Int) < (m : Int) := by omega
          have k2 : 0 ≤ (k : Int) ∧ (k : Int) < (m : Int) := ⟨k0, k1⟩
          obtain ⟨y, hy, ty⟩ := take_oneG x.blocks k (by have := M0.out; omega)
          obtain ⟨v, hv⟩ : ∃ v, vs[k]? = some v := ⟨_, List.getElem?_eq_getElem (by have := M0.out; have := VL.out; omega)⟩
          have hy' := HI.out _ OI.out k v y hv hy
          have hc := HV.out _ OI.out
          change HoldsG slC 1 _ r3.sl vs at hc
          rw [EB.out] at hc
          obtain ⟨pb, po, rfl, hd⟩ := hc.at hv
          obtain ⟨ya, yc, ey, _⟩ := hy'
          have cy := hd 0 v.sl rfl
          rw [ey, Nat.mul_one, Nat.add_zero] at cy
          have TY := hid ty
          clear hk hg hy hv hc hd ey ty
          by_cases hq : (y.length : Int) > 40
          · go_wp2_with fail
            go_ret
            exact ⟨false, rfl, by simp, OO.out.trans OI.out⟩
          · have HQ := hid hq
            go_wp2_with fail
            go_roundg hh
            case measure => omega
            case rel =>
              refine ⟨k + 1, KN.out, by go_num, fun l hl => ?_, OI.out⟩
              rw [TY.out] at hl
              rcases List.mem_append.1 hl with h | h
              · exact BB.out l h
              · simp at h
                rw [h]
                have := HQ.out
                omega
/-- made: an object, exactly if it can be. -/
theorem made_any (f wd : Int) (b : Value) (us : List El) (w : World) (hb : LIn w b us) (hs : ∀ e, e ∈ us → MSm e.1) (hl : us.length ≤ 100) :
    (okN f wd ∧ f + us.length ≤ 8160 ∧ Calls Try.prog 25 #[.int .i64 f, .int .i64 wd, b] w fun e w' => NewN 59 w w' f wd (us.map (·.1)) e) ∨
      ((¬ okN f wd ∨ ¬ f + us.length ≤ 8160) ∧ Calls Try.prog 25 #[.int .i64 f, .int .i64 wd, b] w fun e w' => e = .returned (.pointer none) ∧ Only [] w w') := by
  by_cases h : okN f wd
  · by_cases hn : f + us.length ≤ 8160
    · exact .inl ⟨h, hn, made_yes f wd b us w h hb hs hl hn⟩
    · exact .inr ⟨.inr hn, made_long f wd b us w h hb hs hl hn⟩
  · exact .inr ⟨.inl h, made_bad f wd b w h⟩
end Go.Proofs.Ytfmfknjjhemnoaa

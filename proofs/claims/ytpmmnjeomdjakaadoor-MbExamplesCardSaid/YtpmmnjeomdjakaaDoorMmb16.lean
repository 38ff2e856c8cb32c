/- The program's checkCbp. -/
/- The program's checkMvds and checkBlocks. -/
/- What the program's Check answers, in plain words; cmp.Or; arrays as slices. -/
import Derived.Test.YtpmmnjeomdjakaaDoorMmb14
import Derived.Test.YtpmmnjeomdjakaaDoorQrg
import Derived.Test.YtpmmnjeomdjakaaDoorMmb11
section
set_option maxRecDepth 20000
namespace Go.Proofs.YtpmmnjeomdjakaaDoor
open Go.RowKit
set_option linter.unusedVariables false
set_option linter.unusedSimpArgs false

theorem eval_const (a : Act) (v : Value) : a.eval (.const v) = v := rfl
theorem run_u81 (x : Int) (w : World) : (Instr.buildSlice 61 1 #[(0, .int .u8 x)]).run Tryd.prog w = .ok (.slice (some ⟨w.heap.size, 0, none⟩) 1 1) (w.alloc (.cells #[.int .u8 x] 5)) := by kernel_rfl
/-- Cells of a row, as numbers that may be read. -/
theorem holds_cells {q : IntKind} {w : World} {g n : Nat} {T : TypeId} (l : List Int) (hn : n = l.length) (h : w.heap[g]? = some (.cells (l.map (Value.int q)).toArray T (0, 0))) (hl : l.length ≤ 1000) : HoldsI q w (.slice (some ⟨g, 0, none⟩) n n) l := by
  subst hn
  refine ⟨_, _, rfl, Nat.le_refl _, by unfold maxLen; omega, .inr ⟨g, 0, rfl, fun j x hj => ?_⟩⟩
  have hB : Blk w g T (l.map (Value.int q)).toArray := h
  rw [Nat.zero_add]
  exact hB.cell (by simp [hj])
theorem holdsU_row {w : World} {g : Nat} {x : Int} (h : w.heap[g]? = some (.cells #[.int .u8 x] 5 (0, 0))) : HoldsI .u8 w (.slice (some ⟨g, 0, none⟩) 1 1) [x] := holds_cells [x] rfl h (by simp)
def cbpW (x : MV) : Int := if x.kind = 1 ∧ x.cbp % 16 ≠ 0 ∧ x.cbp % 16 ≠ 15 then 3 else fixE (codedI x.kind) [x.cbp] 0 47
set_option maxRecDepth 100000 in
set_option maxHeartbeats 4000000 in
theorem pcbp_any (x : MV) (rv vv bv : Value) (w : World) (hx : MIn x) : Calls Tryd.prog 33 #[mV x rv vv bv] w fun e w' => e = .returned (.int .i64 (cbpW x)) ∧ Only [] w w' := by
  obtain ⟨W1, hW⟩ : ∃ W, W = w.alloc (.cells (mC x rv vv bv).toArray 28) := ⟨_, rfl⟩
  have BX := hid (show Blk W1 w.heap.size 28 (mC x rv vv bv).toArray from hW ▸ Blk.new w _ _)
  have oW := hid (show Only [] w W1 from hW ▸ ((Only.refl [] w).alloc _))
  obtain ⟨Z, hZ⟩ : ∃ Z, Z = w.heap.size := ⟨_, rfl⟩
  rw [← hZ] at BX
  have c0 := BX.out.cell (i := 0) (v := .int .u8 x.kind) rfl
  have c25 := BX.out.cell (i := 25) (v := .int .u8 x.cbp) rfl
  have HW := hid hW
  have HZ := hid hZ
  have an : bits .and .u8 x.cbp 15 = x.cbp % 16 := and15_u8 _ hx.c0 hx.c1
  clear hW hZ hx
  obtain ⟨m, hm⟩ : ∃ m, m = x.cbp % 16 := ⟨_, rfl⟩
  rw [← hm] at an
  by_cases h3 : x.kind = 1 ∧ x.cbp % 16 ≠ 0 ∧ x.cbp % 16 ≠ 15
  · have CP : cbpW x = 3 := if_pos h3
    rw [CP]
    rw [← hm] at h3
    have b1 : (x.kind == 1) = true := by simpa using h3.1
    have b2 : (m != 0) = true := by simpa using h3.2.1
    have b3 : (m != 15) = true := by simpa using h3.2.2
    have b4 : (m == 0) = false := by simpa using h3.2.1
    have b5 : (m == 15) = false := by simpa using h3.2.2
    clear h3 CP hm
    unfold mV
    go_enter Tryd.func33, Tryd.ntmps33
    go_wp2_with (refine wp_box rfl 28 (.tmp 0) rfl (mC x rv vv bv).toArray rfl HW.out HZ.out ?_; simp only [Act.put, List.setIfInBounds_toArray, List.set_cons_zero, List.set_cons_succ])
    go_ret
    exact ⟨rfl, oW.out⟩
  · have CP : cbpW x = fixE (codedI x.kind) [x.cbp] 0 47 := if_neg h3
    rw [CP]
    rw [← hm] at h3
    obtain ⟨bb, hbb⟩ : ∃ b : Bool, b = (x.kind == 1) := ⟨_, rfl⟩
    have b1 : (x.kind == 1) = bb := hbb.symm
    have hc : bb = false ∨ (bb = true ∧ m = 0) ∨ (bb = true ∧ m = 15) := by
      rw [hbb]
      by_cases h1 : x.kind = 1
      · have : m = 0 ∨ m = 15 := by omega
        rcases this with h | h
        · exact .inr (.inl ⟨by simpa using h1, h⟩)
        · exact .inr (.inr ⟨by simpa using h1, h⟩)
      · exact .inl (by simpa using h1)
    clear h3 CP hm hbb
    rcases hc with rfl | ⟨rfl, rfl⟩ | ⟨rfl, rfl⟩
    all_goals
      unfold mV
      go_enter Tryd.func33, Tryd.ntmps33
      go_wp2_with (refine wp_box rfl 28 (.tmp 0) rfl (mC x rv vv bv).toArray rfl HW.out HZ.out ?_; simp only [Act.put, List.setIfInBounds_toArray, List.set_cons_zero, List.set_cons_succ])
      clear c0 c25 an b1
      refine wp_region_rgT (m := 7) [.val (mV x rv vv bv), .val (.bool (codedI x.kind)), .val (.pointer (some ⟨Z, 25, none⟩)), .val (.int .u8 x.cbp), .row 5 1 (#[.int .u8 x.cbp]), .val (.int .i64 (fixE (codedI x.kind) [x.cbp] 0 47)), .val (.int .i64 (fixE (codedI x.kind) [x.cbp] 0 47))] (by kernel_rfl) rfl (by kernel_rfl) ?_ ?_
      · refine RgSteps.cons (fun a w hS hsz hout hd K hK => ?_) ?_
        · rw [if_pos (by rfl)]
          have e1 : a.eval (.tmp 1) = .pointer (some ⟨Z, 0, none⟩) := hout 1 (by kernel_rfl)
          exact rg_load 28 (.tmp 1) rfl ⟨Z, 0, none⟩ (mV x rv vv bv) e1 ((BX.out.only hS (by simp)).mb) (hK.out _ _ rfl (Only.refl _ _))
        refine RgSteps.cons (fun a w hS hsz hout hd K hK => ?_) ?_
        · rw [if_pos (by rfl)]
          have e18 : a.eval (.tmp 18) = mV x rv vv bv := hd 0 (by kernel_rfl)
          refine rg_call 61 _ _ #[mV x rv vv bv] rfl (by kernel_rfl) (by simp [e18, eval_const]) ((phascbp_any x rv vv bv w).mono ?_)
          rintro e w2 ⟨rfl, o2⟩
          exact ⟨_, rfl, hK.out _ _ rfl o2⟩
        refine RgSteps.cons (fun a w hS hsz hout hd K hK => ?_) ?_
        · rw [if_pos (by rfl)]
          have e1 : a.eval (.tmp 1) = .pointer (some ⟨Z, 0, none⟩) := hout 1 (by kernel_rfl)
          refine rg_value (v := .pointer (some ⟨Z, 25, none⟩)) ?_ (hK.out _ _ rfl (Only.refl _ _))
          clear hd hout hK hsz
          have ec : ∀ v, a.eval (.const v) = v := fun _ => rfl
          generalize a.eval = ev at *
          go_simp
          (try first | with_reducible rfl | go_num | decide)
        refine RgSteps.cons (fun a w hS hsz hout hd K hK => ?_) ?_
        · rw [if_pos (by rfl)]
          have e20 : a.eval (.tmp 20) = .pointer (some ⟨Z, 25, none⟩) := hd 2 (by kernel_rfl)
          exact rg_load 5 (.tmp 20) rfl ⟨Z, 25, none⟩ (.int .u8 x.cbp) e20 (lc_u8 ((BX.out.only hS (by simp)).cell (i := 25) rfl)) (hK.out _ _ rfl (Only.refl _ _))
        refine RgSteps.cons (fun a w hS hsz hout hd K hK => ?_) ?_
        · rw [if_pos (by rfl)]
          have e21 : a.eval (.tmp 21) = .int .u8 x.cbp := hd 3 (by kernel_rfl)
          exact rg_row 61 1 _ rfl #[(0, .int .u8 x.cbp)] (by simp [e21, eval_const]) _ _ (run_u81 _ w) (hK.out _ _ ⟨w.heap.size, rfl, heap_alloc_new w _⟩ ((Only.refl [] w).alloc _))
        refine RgSteps.cons (fun a w hS hsz hout hd K hK => ?_) ?_
        · rw [if_pos (by rfl)]
          have e19 : a.eval (.tmp 19) = .bool (codedI x.kind) := hd 1 (by kernel_rfl)
          obtain ⟨g22, e22, h22⟩ : ∃ g, a.eval (.tmp 22) = .slice (some ⟨g, 0, none⟩) 1 1 ∧ w.heap[g]? = some (.cells #[.int .u8 x.cbp] 5 (0, 0)) := hd 4 (by kernel_rfl)
          refine rg_call 29 _ _ #[.bool (codedI x.kind), .slice (some ⟨g22, 0, none⟩) 1 1, .int .u8 0, .int .u8 47] rfl (by kernel_rfl) (by simp [e19, e22, eval_const]) ((pfixedU_any (codedI x.kind) (.slice (some ⟨g22, 0, none⟩) 1 1) [x.cbp] 0 47 w (holdsU_row h22) (by simp)).mono ?_)
          rintro e w2 ⟨rfl, o2⟩
          exact ⟨_, rfl, hK.out _ _ rfl (o2 ▸ Only.refl _ _)⟩
        refine RgSteps.cons (fun a w hS hsz hout hd K hK => ?_) ?_
        · rw [if_pos (by rfl)]
          have e23 : a.eval (.tmp 23) = .int .i64 (fixE (codedI x.kind) [x.cbp] 0 47) := hd 5 (by kernel_rfl)
          refine rg_value (v := .int .i64 (fixE (codedI x.kind) [x.cbp] 0 47)) ?_ (hK.out _ _ rfl (Only.refl _ _))
          clear hd hout hK hsz
          have ec : ∀ v, a.eval (.const v) = v := fun _ => rfl
          generalize a.eval = ev at *
          go_simp
          (try first | with_reducible rfl | go_num | decide)
        exact RgSteps.nil _
      · intro a w hS hsz hdf hout hall
        have e2 : a.eval (.tmp 2) = .int .i64 (fixE (codedI x.kind) [x.cbp] 0 47) := hall 6 rfl
        have OF := hid hS
        go_wp2_with fail
        refine bodyPost_ret (results_tmp rfl a.tmps _ _) hdf ?_
        exact ⟨congrArg Ending.returned e2, oW.out.trans OF.out⟩
end Go.Proofs.YtpmmnjeomdjakaaDoor

end
section
set_option maxRecDepth 20000
namespace Go.Proofs.YtpmmnjeomdjakaaDoor
open Go.RowKit
set_option linter.unusedVariables false
set_option linter.unusedSimpArgs false

theorem run_i2 (x y : Int) (w : World) : (Instr.buildSlice 24 2 #[(0, .int .i64 x), (1, .int .i64 y)]).run Tryd.prog w = .ok (.slice (some ⟨w.heap.size, 0, none⟩) 2 2) (w.alloc (.cells #[.int .i64 x, .int .i64 y] 3)) := by kernel_rfl
theorem run_i1 (x : Int) (w : World) : (Instr.buildSlice 24 1 #[(0, .int .i64 x)]).run Tryd.prog w = .ok (.slice (some ⟨w.heap.size, 0, none⟩) 1 1) (w.alloc (.cells #[.int .i64 x] 3)) := by kernel_rfl
theorem holdsI_row2 {w : World} {g : Nat} {x y : Int} (h : w.heap[g]? = some (.cells #[.int .i64 x, .int .i64 y] 3 (0, 0))) : HoldsI .i64 w (.slice (some ⟨g, 0, none⟩) 2 2) [x, y] := holds_cells [x, y] rfl h (by simp)
theorem holdsI_row1 {w : World} {g : Nat} {x : Int} (h : w.heap[g]? = some (.cells #[.int .i64 x] 3 (0, 0))) : HoldsI .i64 w (.slice (some ⟨g, 0, none⟩) 1 1) [x] := holds_cells [x] rfl h (by simp)
def mvdsP (x : MV) : Int := if (x.mvds.length : Int) = (piecesN x.kind.toNat (subN x.sb)).1 then firstE (x.mvds.map mvdE) else 2
theorem mvdE_of (p : Int × Int) : mvdE p = if allI [p.1, p.2] (-8192) 8192 = true then 0 else 3 := by
  unfold mvdE rngE allI
  simp only [List.all_cons, List.all_nil, Bool.and_true]
theorem firstE_snoc (l : List Int) (e : Int) (h : firstE l = 0) : firstE (l ++ [e]) = e := by
  rw [firstE_append, if_pos h, firstE, firstE]
  split
  · rename_i h; exact h.symm
  · rfl
theorem firstE_stop (l r : List Int) (e : Int) (h : firstE l = 0) (he : e ≠ 0) : firstE (l ++ e :: r) = e := by
  rw [firstE_append, if_pos h, firstE, if_neg he]
set_option maxRecDepth 100000 in
set_option maxHeartbeats 4000000 in
theorem pmvds_any (x : MV) (rv vv bv : Value) (w : World) (hV : MbV w) (hx : MIn x) (hm : HoldsG vcC 2 w vv x.mvds) (l2 : x.mvds.length ≤ 100000) :
    Calls Tryd.prog 32 #[mV x rv vv bv] w fun e w' => e = .returned (.int .i64 (mvdsP x)) ∧ Only [] w w' := by
  have HM := hid hm
  obtain ⟨va, vc, rfl, _⟩ := hm
  obtain ⟨n, hn⟩ : ∃ n, n = x.mvds.length := ⟨_, rfl⟩
  have HN := hid hn
  unfold mvdsP
  rw [← hn] at HM l2 ⊢
  obtain ⟨W1, hW⟩ : ∃ W, W = w.alloc (.cells (mC x rv (.slice va n vc) bv).toArray 28) := ⟨_, rfl⟩
  have BX := hid (show Blk W1 w.heap.size 28 (mC x rv (.slice va n vc) bv).toArray from hW ▸ Blk.new w _ _)
  have oW := hid (show Only [] w W1 from hW ▸ ((Only.refl [] w).alloc _))
  obtain ⟨Z, hZ⟩ : ∃ Z, Z = w.heap.size := ⟨_, rfl⟩
  rw [← hZ] at BX
  have c0 := BX.out.cell (i := 0) (v := .int .u8 x.kind) rfl
  have c24 := BX.out.cell (i := 24) (v := .slice va n vc) rfl
  have LS := hid BX.out.sb
  have PP := hid (ppieces_any x W1 (hV.only0 oW.out) hx)
  have HW := hid hW
  have HZ := hid hZ
  obtain ⟨pp, hpp⟩ : ∃ p, p = piecesN x.kind.toNat (subN x.sb) := ⟨_, rfl⟩
  rw [← hpp] at PP ⊢
  obtain ⟨pn, pe⟩ := pp
  dsimp only at PP ⊢
  have nb : (n : Int) ≤ 100000 := by omega
  clear hW hZ hV hx hpp hn
  unfold mV
  by_cases hc : (n : Int) = pn
  · rw [if_pos hc]
    subst hc
    obtain ⟨res, hres⟩ : ∃ r, r = firstE (x.mvds.map mvdE) := ⟨_, rfl⟩
    rw [← hres]
    have RS := hid hres
    clear hres
    go_enter Tryd.func32, Tryd.ntmps32
    go_wp2_with (first
      | (refine wp_box rfl 28 (.tmp 0) rfl (mC x rv (.slice va n vc) bv).toArray rfl HW.out HZ.out ?_; simp only [Act.put, List.setIfInBounds_toArray, List.set_cons_zero, List.set_cons_succ])
      | (refine wp_load_cell (by kernel_rfl) 23 (.tmp 9) rfl ⟨Z, 19, none⟩ (.agg (sbC x.sb).toArray) rfl LS.out ?_; simp only [Act.put, List.setIfInBounds_toArray, List.set_cons_zero, List.set_cons_succ]))
    refine PP.out.mono ?_
    rintro e w2 ⟨rfl, o2⟩
    have c24 := (BX.out.only o2 (by simp)).cell (i := 24) (v := .slice va n vc) rfl
    have O2 := hid o2
    clear o2 c0
    go_wp2_with fail
    go_loopg [20] n (fun g t wr => ∃ j : Nat, j + g = n ∧ t = .int .i64 j ∧ firstE ((x.mvds.take j).map mvdE) = 0 ∧ Only [] W1 wr)
    case atStart => exact ⟨0, by omega, rfl, rfl, O2.out⟩
    case round =>
      obtain ⟨j, hj, rfl, hF, hO⟩ := hrel
      have FT := hid hF
      have O := hid hO
      have j0 : (0 : Int) ≤ (j : Int) := by omega
      clear hF hO c24
      by_cases hg : gk = 0
      · have i1 : ¬ (j : Int) < (n : Int) := by omega
        have E := hid (show res = 0 from by rw [RS.out]; have h := FT.out; rwa [List.take_of_length_le (by have := HN.out; omega)] at h)
        clear hj hg
        go_wp2_with fail
        go_ret
        rw [E.out]
        exact ⟨rfl, oW.out.trans O.out⟩
      · obtain ⟨gg, rfl⟩ : ∃ gg, gk = gg + 1 := ⟨gk - 1, by omega⟩
        have JN := hid (show j + 1 + gg = n by omega)
        have i1 : (j : Int) < (n : Int) := by omega
        obtain ⟨p, hp⟩ : ∃ p, x.mvds[j]? = some p := ⟨_, List.getElem?_eq_getElem (by have := HN.out; omega)⟩
        obtain ⟨vb, vo, rfl, hcl⟩ := HM.out.at hp
        obtain ⟨p1, p2⟩ := p
        have C0 := hid (fun w' (o : Only [] wr w') => ((oW.out.trans O.out).trans o).cell (hcl 0 (.int .i64 p1) rfl) (by simp))
        have C1 := hid (fun w' (o : Only [] wr w') => ((oW.out.trans O.out).trans o).cell (hcl 1 (.int .i64 p2) rfl) (by simp))
        have BR := hid (BX.out.only O.out (by simp))
        obtain ⟨r, hr⟩ : ∃ r, r = allI [p1, p2] (-8192) 8192 := ⟨_, rfl⟩
        have RW := hid hr.symm
        have TM : (x.mvds.take (j + 1)).map mvdE = (x.mvds.take j).map mvdE ++ [mvdE (p1, p2)] := by
          obtain ⟨h1, h2⟩ := List.getElem?_eq_some_iff.1 hp
          rw [List.take_succ_eq_append_getElem h1, h2, List.map_append]; rfl
        have ME : mvdE (p1, p2) = if r = true then 0 else 3 := by rw [mvdE_of, ← hr]
        have NX := hid (show r = true → firstE ((x.mvds.take (j + 1)).map mvdE) = 0 from fun h => by rw [TM, firstE_snoc _ _ FT.out, ME, if_pos h])
        have RY := hid (show r = false → res = 3 from fun h => by
          rw [RS.out]
          have e : x.mvds = x.mvds.take j ++ (p1, p2) :: x.mvds.drop (j + 1) := by
            obtain ⟨h1, h2⟩ := List.getElem?_eq_some_iff.1 hp
            rw [← h2, ← List.drop_eq_getElem_cons h1, List.take_append_drop]
          rw [e, List.map_append, List.map_cons, ME, h]
          exact firstE_stop _ _ _ FT.out (by decide))
        clear hp hcl hr TM ME hj hg
        go_wp2_with fail
        refine wp_region_rgT (m := 15) [.val (.pointer (some ⟨Z, 24, none⟩)), .val (.slice (some ⟨vb, vo, none⟩) n vc), .val (.int .i64 j), .val (.pointer (some ⟨vb, vo + j * 2, none⟩)), .val (.pointer (some ⟨vb, vo + j * 2, none⟩)), .val (.int .i64 p1), .val (.pointer (some ⟨Z, 24, none⟩)), .val (.slice (some ⟨vb, vo, none⟩) n vc), .val (.int .i64 j), .val (.pointer (some ⟨vb, vo + j * 2, none⟩)), .val (.pointer (some ⟨vb, vo + j * 2 + 1, none⟩)), .val (.int .i64 p2), .row 3 2 (#[.int .i64 p1, .int .i64 p2]), .val (.bool r), .val (.bool (!r))] (by kernel_rfl) rfl (by kernel_rfl) ?_ ?_
        · refine RgSteps.cons (fun a w hS hsz hout hd K hK => ?_) ?_
          · rw [if_pos (by rfl)]
            have e1 : a.eval (.tmp 1) = .pointer (some ⟨Z, 0, none⟩) := hout 1 (by kernel_rfl)
            refine rg_value (v := .pointer (some ⟨Z, 24, none⟩)) ?_ (hK.out _ _ rfl (Only.refl _ _))
            clear hd hout hK hsz
            generalize a.eval = ev at *
            go_simp
            (try with_reducible rfl)
          refine RgSteps.cons (fun a w hS hsz hout hd K hK => ?_) ?_
          · rw [if_pos (by rfl)]
            have e23 : a.eval (.tmp 23) = .pointer (some ⟨Z, 24, none⟩) := hd 0 (by kernel_rfl)
            exact rg_load 25 (.tmp 23) rfl ⟨Z, 24, none⟩ (.slice (some ⟨vb, vo, none⟩) n vc) e23 (lc_vs ((BR.out.only hS (by simp)).cell (i := 24) rfl)) (hK.out _ _ rfl (Only.refl _ _))
          refine RgSteps.cons (fun a w hS hsz hout hd K hK => ?_) ?_
          · rw [if_pos (by rfl)]
            have e5 : a.eval (.tmp 5) = .int .i64 j := hout 5 (by kernel_rfl)
            refine rg_value (v := .int .i64 j) ?_ (hK.out _ _ rfl (Only.refl _ _))
            clear hd hout hK hsz
            generalize a.eval = ev at *
            go_simp
            (try with_reducible rfl)
          refine RgSteps.cons (fun a w hS hsz hout hd K hK => ?_) ?_
          · rw [if_pos (by rfl)]
            have e24 : a.eval (.tmp 24) = .slice (some ⟨vb, vo, none⟩) n vc := hd 1 (by kernel_rfl)
            have e25 : a.eval (.tmp 25) = .int .i64 j := hd 2 (by kernel_rfl)
            refine rg_value (v := .pointer (some ⟨vb, vo + j * 2, none⟩)) ?_ (hK.out _ _ rfl (Only.refl _ _))
            clear hd hout hK hsz
            generalize a.eval = ev at *
            go_simp
            (try with_reducible rfl)
          refine RgSteps.cons (fun a w hS hsz hout hd K hK => ?_) ?_
          · rw [if_pos (by rfl)]
            have e26 : a.eval (.tmp 26) = .pointer (some ⟨vb, vo + j * 2, none⟩) := hd 3 (by kernel_rfl)
            refine rg_value (v := .pointer (some ⟨vb, vo + j * 2, none⟩)) ?_ (hK.out _ _ rfl (Only.refl _ _))
            clear hd hout hK hsz
            generalize a.eval = ev at *
            go_simp
            (try with_reducible rfl)
          refine RgSteps.cons (fun a w hS hsz hout hd K hK => ?_) ?_
          · rw [if_pos (by rfl)]
            have e27 : a.eval (.tmp 27) = .pointer (some ⟨vb, vo + j * 2, none⟩) := hd 4 (by kernel_rfl)
            exact rg_load 3 (.tmp 27) rfl ⟨vb, vo + j * 2, none⟩ (.int .i64 p1) e27 (lc_i64 (C0.out w hS)) (hK.out _ _ rfl (Only.refl _ _))
          refine RgSteps.cons (fun a w hS hsz hout hd K hK => ?_) ?_
          · rw [if_pos (by rfl)]
            have e1 : a.eval (.tmp 1) = .pointer (some ⟨Z, 0, none⟩) := hout 1 (by kernel_rfl)
            refine rg_value (v := .pointer (some ⟨Z, 24, none⟩)) ?_ (hK.out _ _ rfl (Only.refl _ _))
            clear hd hout hK hsz
            generalize a.eval = ev at *
            go_simp
            (try with_reducible rfl)
          refine RgSteps.cons (fun a w hS hsz hout hd K hK => ?_) ?_
          · rw [if_pos (by rfl)]
            have e29 : a.eval (.tmp 29) = .pointer (some ⟨Z, 24, none⟩) := hd 6 (by kernel_rfl)
            exact rg_load 25 (.tmp 29) rfl ⟨Z, 24, none⟩ (.slice (some ⟨vb, vo, none⟩) n vc) e29 (lc_vs ((BR.out.only hS (by simp)).cell (i := 24) rfl)) (hK.out _ _ rfl (Only.refl _ _))
          refine RgSteps.cons (fun a w hS hsz hout hd K hK => ?_) ?_
          · rw [if_pos (by rfl)]
            have e5 : a.eval (.tmp 5) = .int .i64 j := hout 5 (by kernel_rfl)
            refine rg_value (v := .int .i64 j) ?_ (hK.out _ _ rfl (Only.refl _ _))
            clear hd hout hK hsz
            generalize a.eval = ev at *
            go_simp
            (try with_reducible rfl)
          refine RgSteps.cons (fun a w hS hsz hout hd K hK => ?_) ?_
          · rw [if_pos (by rfl)]
            have e30 : a.eval (.tmp 30) = .slice (some ⟨vb, vo, none⟩) n vc := hd 7 (by kernel_rfl)
            have e31 : a.eval (.tmp 31) = .int .i64 j := hd 8 (by kernel_rfl)
            refine rg_value (v := .pointer (some ⟨vb, vo + j * 2, none⟩)) ?_ (hK.out _ _ rfl (Only.refl _ _))
            clear hd hout hK hsz
            generalize a.eval = ev at *
            go_simp
            (try with_reducible rfl)
          refine RgSteps.cons (fun a w hS hsz hout hd K hK => ?_) ?_
          · rw [if_pos (by rfl)]
            have e32 : a.eval (.tmp 32) = .pointer (some ⟨vb, vo + j * 2, none⟩) := hd 9 (by kernel_rfl)
            refine rg_value (v := .pointer (some ⟨vb, vo + j * 2 + 1, none⟩)) ?_ (hK.out _ _ rfl (Only.refl _ _))
            clear hd hout hK hsz
            generalize a.eval = ev at *
            go_simp
            (try with_reducible rfl)
          refine RgSteps.cons (fun a w hS hsz hout hd K hK => ?_) ?_
          · rw [if_pos (by rfl)]
            have e33 : a.eval (.tmp 33) = .pointer (some ⟨vb, vo + j * 2 + 1, none⟩) := hd 10 (by kernel_rfl)
            exact rg_load 3 (.tmp 33) rfl ⟨vb, vo + j * 2 + 1, none⟩ (.int .i64 p2) e33 (lc_i64 (C1.out w hS)) (hK.out _ _ rfl (Only.refl _ _))
          refine RgSteps.cons (fun a w hS hsz hout hd K hK => ?_) ?_
          · rw [if_pos (by rfl)]
            have e28 : a.eval (.tmp 28) = .int .i64 p1 := hd 5 (by kernel_rfl)
            have e34 : a.eval (.tmp 34) = .int .i64 p2 := hd 11 (by kernel_rfl)
            exact rg_row 24 2 _ rfl #[(0, .int .i64 p1), (1, .int .i64 p2)] (by simp [e28, e34, eval_const]) _ _ (run_i2 _ _ w) (hK.out _ _ ⟨w.heap.size, rfl, heap_alloc_new w _⟩ ((Only.refl [] w).alloc _))
          refine RgSteps.cons (fun a w hS hsz hout hd K hK => ?_) ?_
          · rw [if_pos (by rfl)]
            obtain ⟨g35, e35, h35⟩ : ∃ g, a.eval (.tmp 35) = .slice (some ⟨g, 0, none⟩) 2 2 ∧ w.heap[g]? = some (.cells #[.int .i64 p1, .int .i64 p2] 3 (0, 0)) := hd 12 (by kernel_rfl)
            refine rg_call 65 _ _ #[.slice (some ⟨g35, 0, none⟩) 2 2, .int .i64 (-8192), .int .i64 8192] rfl (by kernel_rfl) (by simp [e35, eval_const]) ((RW.out ▸ pwithinI_any (.slice (some ⟨g35, 0, none⟩) 2 2) [p1, p2] (-8192) 8192 w (holdsI_row2 h35) (by simp)).mono ?_)
            rintro e w2 ⟨rfl, o2⟩
            exact ⟨_, rfl, hK.out _ _ rfl (o2 ▸ Only.refl _ _)⟩
          refine RgSteps.cons (fun a w hS hsz hout hd K hK => ?_) ?_
          · rw [if_pos (by rfl)]
            have e36 : a.eval (.tmp 36) = .bool r := hd 13 (by kernel_rfl)
            refine rg_value (v := .bool (!r)) ?_ (hK.out _ _ rfl (Only.refl _ _))
            clear hd hout hK hsz
            generalize a.eval = ev at *
            go_simp
            (try with_reducible rfl)
          exact RgSteps.nil _
        · intro a w hS hsz hdf hout hall
          obtain ⟨g35, f35, _⟩ : ∃ g, a.eval (.tmp 35) = .slice (some ⟨g, 0, none⟩) 2 2 ∧ w.heap[g]? = some (.cells (#[.int .i64 p1, .int .i64 p2]) 3 (0, 0)) := hall 12 rfl
          have ha := rg_close hsz hdf hout [(23, .pointer (some ⟨Z, 24, none⟩)), (24, .slice (some ⟨vb, vo, none⟩) n vc), (25, .int .i64 j), (26, .pointer (some ⟨vb, vo + j * 2, none⟩)), (27, .pointer (some ⟨vb, vo + j * 2, none⟩)), (28, .int .i64 p1), (29, .pointer (some ⟨Z, 24, none⟩)), (30, .slice (some ⟨vb, vo, none⟩) n vc), (31, .int .i64 j), (32, .pointer (some ⟨vb, vo + j * 2, none⟩)), (33, .pointer (some ⟨vb, vo + j * 2 + 1, none⟩)), (34, .int .i64 p2), (35, .slice (some ⟨g35, 0, none⟩) 2 2), (36, .bool r), (37, .bool (!r))] (by kernel_rfl) (.cons (hall 0 rfl) (.cons (hall 1 rfl) (.cons (hall 2 rfl) (.cons (hall 3 rfl) (.cons (hall 4 rfl) (.cons (hall 5 rfl) (.cons (hall 6 rfl) (.cons (hall 7 rfl) (.cons (hall 8 rfl) (.cons (hall 9 rfl) (.cons (hall 10 rfl) (.cons (hall 11 rfl) (.cons f35 (.cons (hall 13 rfl) (.cons (hall 14 rfl) .nil)))))))))))))))
          rw [ha]
          have OF := hid hS
          clear ha hall hout hsz hdf hS f35
          simp only [putL, Act.put, List.setIfInBounds_toArray, List.set_cons_zero, List.set_cons_succ]
          cases r
          · have E := hid (show res = 3 from RY.out rfl)
            simp only [Bool.not_false]
            go_wp2_with fail
            go_ret
            rw [E.out]
            exact ⟨rfl, (oW.out.trans O.out).trans OF.out⟩
          · simp only [Bool.not_true]
            go_wp2_with fail
            go_roundg gg
            case measure => omega
            case rel => exact ⟨j + 1, JN.out, by go_num, NX.out (by trivial), O.out.trans OF.out⟩
  · rw [if_neg hc]
    have n1 : ((n : Int) == pn) = false := by simpa using hc
    have n2 : ((n : Int) != pn) = true := by simpa using hc
    clear hc
    go_enter Tryd.func32, Tryd.ntmps32
    go_wp2_with (first
      | (refine wp_box rfl 28 (.tmp 0) rfl (mC x rv (.slice va n vc) bv).toArray rfl HW.out HZ.out ?_; simp only [Act.put, List.setIfInBounds_toArray, List.set_cons_zero, List.set_cons_succ])
      | (refine wp_load_cell (by kernel_rfl) 23 (.tmp 9) rfl ⟨Z, 19, none⟩ (.agg (sbC x.sb).toArray) rfl LS.out ?_; simp only [Act.put, List.setIfInBounds_toArray, List.set_cons_zero, List.set_cons_succ]))
    refine PP.out.mono ?_
    rintro e w2 ⟨rfl, o2⟩
    have c24 := (BX.out.only o2 (by simp)).cell (i := 24) (v := .slice va n vc) rfl
    have O2 := hid o2
    clear o2 c0
    go_wp2_with fail
    go_ret
    exact ⟨rfl, oW.out.trans O2.out⟩
theorem blksE_app : ∀ (l1 l2 : List Cod) (b1 b2 : List (List Int)), l1.length = b1.length → blksE (l1 ++ l2) (b1 ++ b2) = blksE l1 b1 ++ blksE l2 b2
  | [], l2, [], b2, h => by simp [blksE]
  | c :: l1, l2, b :: b1, b2, h => by
    rw [List.cons_append, List.cons_append, blksE, blksE, blksE_app l1 l2 b1 b2 (by simpa using h), List.append_assoc]
  | [], _, _ :: _, _, h => by simp at h
  | _ :: _, _, [], _, h => by simp at h
theorem firstE_map (b : List Int) : firstE (b.map levE) = if allI b (-32768) 32768 = true then 0 else 3 := by
  induction b with
  | nil => rfl
  | cons x b ih =>
    rw [List.map_cons, firstE, ih]
    have e : allI (x :: b) (-32768) 32768 = (inI x (-32768) 32768 && allI b (-32768) 32768) := by simp [allI]
    rw [e]
    unfold levE rngE
    cases inI x (-32768) 32768 <;> simp
theorem firstE_blk (c : Cod) (b : List Int) : firstE (blkE c b) = listE b (sizeI c.1).1 (-32768) 32768 := by
  unfold blkE listE
  rw [firstE, firstE_map]
  unfold absE
  by_cases h : (b.length : Int) = (sizeI c.1).1
  · simp [h]
  · simp [h]
theorem sizeI_tab : ∀ k : Nat, k < 5 → (sizeI (k : Int)).1 = szL.getD k 0 := by decide
def blksP (x : MV) : Int := if x.blocks.length = (whichL x).length then firstE (blksE (whichL x) x.blocks) else 2
set_option maxRecDepth 100000 in
set_option maxHeartbeats 4000000 in
theorem pblks_any (x : MV) (rv vv bv : Value) (w : World) (hV : MbV w) (hx : MIn x) (hm : HoldsB w bv x.blocks) (l3 : x.blocks.length ≤ 100000) (l4 : ∀ l, l ∈ x.blocks → l.length ≤ 1000000) :
    Calls Tryd.prog 36 #[mV x rv vv bv] w fun e w' => e = .returned (.int .i64 (blksP x)) ∧ Only [] w w' := by
  obtain ⟨us, hu, hul, hh⟩ := hm
  have HU0 := hid hu
  have HH := hid hh
  have L4 := hid l4
  obtain ⟨n, hn⟩ : ∃ n, n = us.length := ⟨_, rfl⟩
  have HN := hid (show n = us.length ∧ n = x.blocks.length from ⟨hn, hn.trans hul⟩)
  obtain ⟨ba, bc, rfl, _⟩ := id hu
  rw [← hn] at HU0 ⊢
  have nb : (n : Int) ≤ 100000 := by have := HN.out; omega
  obtain ⟨W1, hW⟩ : ∃ W, W = w.alloc (.cells (mC x rv vv (.slice ba n bc)).toArray 28) := ⟨_, rfl⟩
  have BX := hid (show Blk W1 w.heap.size 28 (mC x rv vv (.slice ba n bc)).toArray from hW ▸ Blk.new w _ _)
  have oW := hid (show Only [] w W1 from hW ▸ ((Only.refl [] w).alloc _))
  obtain ⟨Z, hZ⟩ : ∃ Z, Z = w.heap.size := ⟨_, rfl⟩
  rw [← hZ] at BX
  have c27 := BX.out.cell (i := 27) (v := .slice ba n bc) rfl
  have BL := hid (blocks13_any x rv vv (.slice ba n bc) W1 (hV.only0 oW.out) hx)
  have VW := hid (hV.only0 oW.out)
  have HW := hid hW
  have HZ := hid hZ
  obtain ⟨L, hL⟩ : ∃ L, L = whichL x := ⟨_, rfl⟩
  have WL : L.length ≤ 27 := by rw [hL]; exact blocksL_len _ _
  have CAT := hid (show ∀ c, c ∈ L → 0 ≤ c.1 ∧ c.1 ≤ 4 from fun c hc => blocksL_cat _ _ c (by rw [hL] at hc; exact hc))
  unfold blksP
  rw [← hL] at BL ⊢
  rw [← HN.out.2]
  obtain ⟨res, hres⟩ : ∃ r, r = if n = L.length then firstE (blksE L x.blocks) else 2 := ⟨_, rfl⟩
  rw [← hres]
  have RE := hid hres
  clear hW hZ hV hx hn hu hul hh l3 l4 hL hres
  unfold mV
  go_enter Tryd.func36, Tryd.ntmps36
  go_wp2_with (first
    | (refine wp_box rfl 28 (.tmp 0) rfl (mC x rv vv (.slice ba n bc)).toArray rfl HW.out HZ.out ?_; simp only [Act.put, List.setIfInBounds_toArray, List.set_cons_zero, List.set_cons_succ])
    | (refine load_atA rfl 28 (.tmp 1) rfl ⟨Z, 0, none⟩ (mC x rv vv (.slice ba n bc)) rfl BX.out.mb ?_; simp only [Act.put, List.setIfInBounds_toArray, List.set_cons_zero, List.set_cons_succ]))
  refine BL.out.mono ?_
  rintro e w2 ⟨sv, rfl, c2⟩
  have C2 := hid c2
  have HL := hid (c2.row.holds cdC_ok)
  obtain ⟨la, lc, rfl, _⟩ := id (c2.row.holds cdC_ok)
  have O2 := hid c2.only
  have c27 := (BX.out.only c2.only (by simp)).cell (i := 27) (v := .slice ba n bc) rfl
  obtain ⟨m, hm⟩ : ∃ m, m = L.length := ⟨_, rfl⟩
  have HM := hid hm
  rw [← hm] at HL C2 WL ⊢
  clear c2 hm BL
  by_cases hc : n = m
  · have RS := hid (show res = firstE (blksE L x.blocks) from by rw [RE.out, if_pos (by rw [hc]; exact HM.out)])
    subst hc
    clear C2 RE
    go_wp2_with fail
    go_loopg [16] n (fun g t wr => ∃ j : Nat, j + g = n ∧ t = .int .i64 j ∧ firstE (blksE (L.take j) (x.blocks.take j)) = 0 ∧ Only [] w2 wr)
    case atStart => exact ⟨0, by omega, rfl, rfl, Only.refl _ _⟩
    case round =>
      obtain ⟨j, hj, rfl, hF, hO⟩ := hrel
      have FT := hid hF
      have O := hid hO
      have j0 : (0 : Int) ≤ (j : Int) := by omega
      clear hF hO c27
      by_cases hg : gk = 0
      · have i1 : ¬ (j : Int) < (n : Int) := by omega
        have E := hid (show res = 0 from by rw [RS.out]; have h := FT.out; rwa [List.take_of_length_le (by have := HM.out; omega), List.take_of_length_le (by have := HN.out; omega)] at h)
        clear hj hg
        go_wp2_with fail
        go_ret
        rw [E.out]
        exact ⟨rfl, (oW.out.trans O2.out).trans O.out⟩
      · obtain ⟨gg, rfl⟩ : ∃ gg, gk = gg + 1 := ⟨gk - 1, by omega⟩
        have JN := hid (show j + 1 + gg = n by omega)
        have i1 : (j : Int) < (n : Int) := by omega
        obtain ⟨c, hcc⟩ : ∃ c, L[j]? = some c := ⟨_, List.getElem?_eq_getElem (by have := HM.out; omega)⟩
        obtain ⟨u, hu⟩ : ∃ u, us[j]? = some u := ⟨_, List.getElem?_eq_getElem (by have := HN.out; omega)⟩
        obtain ⟨b, hb⟩ : ∃ b, x.blocks[j]? = some b := ⟨_, List.getElem?_eq_getElem (by have := HN.out; omega)⟩
        obtain ⟨lb, lo, rfl, hlc⟩ := HL.out.at hcc
        obtain ⟨bb, bo, rfl, hbc⟩ := HU0.out.at hu
        obtain ⟨k, hk⟩ := Int.eq_ofNat_of_zero_le (CAT.out c (List.mem_of_getElem? hcc)).1
        have k5 : k < 5 := by have := (CAT.out c (List.mem_of_getElem? hcc)).2; omega
        have kI : 0 ≤ (k : Int) := by omega
        have kJ : (k : Int) < 5 := by omega
        have Owr := oW.out.trans (O2.out.trans O.out)
        have CC := hid (fun w' (o : Only [] wr w') => show w'.cell? ⟨lb, lo + j * 3, none⟩ = some (.int .u8 (k : Int)) from by rw [← hk]; exact (O.out.trans o).cell (hlc 0 (.int .u8 c.1) rfl) (by simp))
        have CU := hid (fun w' (o : Only [] wr w') => show w'.cell? ⟨bb, bo + j, none⟩ = some u.sl from by have := (Owr.trans o).cell (hbc 0 u.sl rfl) (by simp); rwa [Nat.mul_one, Nat.add_zero] at this)
        have BR := hid (BX.out.only (O2.out.trans O.out) (by simp))
        have VR := hid (VW.out.only0 (O2.out.trans O.out))
        have HU := hid ((HH.out j u b hu hb).only0 Owr)
        have LB := hid (L4.out b (List.mem_of_getElem? hb))
        obtain ⟨e, he⟩ : ∃ e, e = listE b (szL.getD k 0) (-32768) 32768 := ⟨_, rfl⟩
        have EL := hid he.symm
        have FB : firstE (blkE c b) = e := by rw [firstE_blk, hk, sizeI_tab k k5, he]
        have NX := hid (show e = 0 → firstE (blksE (L.take (j + 1)) (x.blocks.take (j + 1))) = 0 from fun h => by rw [blksE_take hcc hb, firstE_append, if_pos FT.out, FB, h])
        have RY := hid (show ¬ e = 0 → res = e from fun h => by
          have e1 : L = L.take j ++ c :: L.drop (j + 1) := by
            obtain ⟨h1, h2⟩ := List.getElem?_eq_some_iff.1 hcc
            rw [← h2, ← List.drop_eq_getElem_cons h1, List.take_append_drop]
          have e2 : x.blocks = x.blocks.take j ++ b :: x.blocks.drop (j + 1) := by
            obtain ⟨h1, h2⟩ := List.getElem?_eq_some_iff.1 hb
            rw [← h2, ← List.drop_eq_getElem_cons h1, List.take_append_drop]
          rw [RS.out, e1, e2, blksE_app _ _ _ _ (by rw [List.length_take, List.length_take]; have := HM.out; have := HN.out; omega), firstE_append, if_pos FT.out, blksE, firstE_append, FB, if_neg h])
        clear hcc hu hb hlc hbc hk he FB hj hg Owr
        go_wp2_with fail
        refine wp_region_rgT (m := 14) [.val (.pointer (some ⟨Z, 27, none⟩)), .val (.slice (some ⟨bb, bo, none⟩) n bc), .val (.int .i64 j), .val (.pointer (some ⟨bb, bo + j, none⟩)), .val (u.sl), .val (.slice (some ⟨lb, lo, none⟩) n lc), .val (.int .i64 j), .val (.pointer (some ⟨lb, lo + j * 3, none⟩)), .val (.pointer (some ⟨lb, lo + j * 3, none⟩)), .val (.int .u8 (k : Int)), .val (.pointer (some ⟨0, k, none⟩)), .val (.int .i64 (szL.getD k 0)), .val (.int .i64 e), .val (.int .i64 e)] (by kernel_rfl) rfl (by kernel_rfl) ?_ ?_
        · refine RgSteps.cons (fun a w hS hsz hout hd K hK => ?_) ?_
          · rw [if_pos (by rfl)]
            have e1 : a.eval (.tmp 1) = .pointer (some ⟨Z, 0, none⟩) := hout 1 (by kernel_rfl)
            refine rg_value (v := .pointer (some ⟨Z, 27, none⟩)) ?_ (hK.out _ _ rfl (Only.refl _ _))
            clear hd hout hK hsz
            generalize a.eval = ev at *
            go_simp
            (try with_reducible rfl)
          refine RgSteps.cons (fun a w hS hsz hout hd K hK => ?_) ?_
          · rw [if_pos (by rfl)]
            have e19 : a.eval (.tmp 19) = .pointer (some ⟨Z, 27, none⟩) := hd 0 (by kernel_rfl)
            exact rg_load 26 (.tmp 19) rfl ⟨Z, 27, none⟩ (.slice (some ⟨bb, bo, none⟩) n bc) e19 (lc_bs ((BR.out.only hS (by simp)).cell (i := 27) rfl)) (hK.out _ _ rfl (Only.refl _ _))
          refine RgSteps.cons (fun a w hS hsz hout hd K hK => ?_) ?_
          · rw [if_pos (by rfl)]
            have e4 : a.eval (.tmp 4) = .int .i64 j := hout 4 (by kernel_rfl)
            refine rg_value (v := .int .i64 j) ?_ (hK.out _ _ rfl (Only.refl _ _))
            clear hd hout hK hsz
            generalize a.eval = ev at *
            go_simp
            (try with_reducible rfl)
          refine RgSteps.cons (fun a w hS hsz hout hd K hK => ?_) ?_
          · rw [if_pos (by rfl)]
            have e20 : a.eval (.tmp 20) = .slice (some ⟨bb, bo, none⟩) n bc := hd 1 (by kernel_rfl)
            have e21 : a.eval (.tmp 21) = .int .i64 j := hd 2 (by kernel_rfl)
            refine rg_value (v := .pointer (some ⟨bb, bo + j, none⟩)) ?_ (hK.out _ _ rfl (Only.refl _ _))
            clear hd hout hK hsz
            generalize a.eval = ev at *
            go_simp
            (try with_reducible rfl)
          refine RgSteps.cons (fun a w hS hsz hout hd K hK => ?_) ?_
          · rw [if_pos (by rfl)]
            have e22 : a.eval (.tmp 22) = .pointer (some ⟨bb, bo + j, none⟩) := hd 3 (by kernel_rfl)
            exact rg_load 24 (.tmp 22) rfl ⟨bb, bo + j, none⟩ (u.sl) e22 (lc_is (CU.out w hS)) (hK.out _ _ rfl (Only.refl _ _))
          refine RgSteps.cons (fun a w hS hsz hout hd K hK => ?_) ?_
          · rw [if_pos (by rfl)]
            have e3 : a.eval (.tmp 3) = .slice (some ⟨lb, lo, none⟩) n lc := hout 3 (by kernel_rfl)
            refine rg_value (v := .slice (some ⟨lb, lo, none⟩) n lc) ?_ (hK.out _ _ rfl (Only.refl _ _))
            clear hd hout hK hsz
            generalize a.eval = ev at *
            go_simp
            (try with_reducible rfl)
          refine RgSteps.cons (fun a w hS hsz hout hd K hK => ?_) ?_
          · rw [if_pos (by rfl)]
            have e4 : a.eval (.tmp 4) = .int .i64 j := hout 4 (by kernel_rfl)
            refine rg_value (v := .int .i64 j) ?_ (hK.out _ _ rfl (Only.refl _ _))
            clear hd hout hK hsz
            generalize a.eval = ev at *
            go_simp
            (try with_reducible rfl)
          refine RgSteps.cons (fun a w hS hsz hout hd K hK => ?_) ?_
          · rw [if_pos (by rfl)]
            have e24 : a.eval (.tmp 24) = .slice (some ⟨lb, lo, none⟩) n lc := hd 5 (by kernel_rfl)
            have e25 : a.eval (.tmp 25) = .int .i64 j := hd 6 (by kernel_rfl)
            refine rg_value (v := .pointer (some ⟨lb, lo + j * 3, none⟩)) ?_ (hK.out _ _ rfl (Only.refl _ _))
            clear hd hout hK hsz
            generalize a.eval = ev at *
            go_simp
            (try with_reducible rfl)
          refine RgSteps.cons (fun a w hS hsz hout hd K hK => ?_) ?_
          · rw [if_pos (by rfl)]
            have e26 : a.eval (.tmp 26) = .pointer (some ⟨lb, lo + j * 3, none⟩) := hd 7 (by kernel_rfl)
            refine rg_value (v := .pointer (some ⟨lb, lo + j * 3, none⟩)) ?_ (hK.out _ _ rfl (Only.refl _ _))
            clear hd hout hK hsz
            generalize a.eval = ev at *
            go_simp
            (try with_reducible rfl)
          refine RgSteps.cons (fun a w hS hsz hout hd K hK => ?_) ?_
          · rw [if_pos (by rfl)]
            have e27 : a.eval (.tmp 27) = .pointer (some ⟨lb, lo + j * 3, none⟩) := hd 8 (by kernel_rfl)
            exact rg_load 5 (.tmp 27) rfl ⟨lb, lo + j * 3, none⟩ (.int .u8 (k : Int)) e27 (lc_u8 (CC.out w hS)) (hK.out _ _ rfl (Only.refl _ _))
          refine RgSteps.cons (fun a w hS hsz hout hd K hK => ?_) ?_
          · rw [if_pos (by rfl)]
            have e28 : a.eval (.tmp 28) = .int .u8 (k : Int) := hd 9 (by kernel_rfl)
            have eg : a.eval (.global 0) = .pointer (some ⟨0, 0, none⟩) := rfl
            refine rg_value (v := .pointer (some ⟨0, k, none⟩)) ?_ (hK.out _ _ rfl (Only.refl _ _))
            clear hd hout hK hsz
            generalize a.eval = ev at *
            go_simp
            (try with_reducible rfl)
          refine RgSteps.cons (fun a w hS hsz hout hd K hK => ?_) ?_
          · rw [if_pos (by rfl)]
            have e29 : a.eval (.tmp 29) = .pointer (some ⟨0, k, none⟩) := hd 10 (by kernel_rfl)
            exact rg_load 3 (.tmp 29) rfl ⟨0, k, none⟩ (.int .i64 (szL.getD k 0)) e29 (lc_i64 ((VR.out.only0 hS).s k k5)) (hK.out _ _ rfl (Only.refl _ _))
          refine RgSteps.cons (fun a w hS hsz hout hd K hK => ?_) ?_
          · rw [if_pos (by rfl)]
            have e23 : a.eval (.tmp 23) = u.sl := hd 4 (by kernel_rfl)
            have e30 : a.eval (.tmp 30) = .int .i64 (szL.getD k 0) := hd 11 (by kernel_rfl)
            refine rg_call 30 _ _ #[u.sl, .int .i64 (szL.getD k 0), .int .i64 (-32768), .int .i64 32768] rfl (by kernel_rfl) (by simp [e23, e30, eval_const]) ((EL.out ▸ plist_any u.sl b (szL.getD k 0) (-32768) 32768 w (HU.out.only0 hS) LB.out).mono ?_)
            rintro e w2 ⟨rfl, o2⟩
            exact ⟨_, rfl, hK.out _ _ rfl (o2 ▸ Only.refl _ _)⟩
          refine RgSteps.cons (fun a w hS hsz hout hd K hK => ?_) ?_
          · rw [if_pos (by rfl)]
            have e31 : a.eval (.tmp 31) = .int .i64 e := hd 12 (by kernel_rfl)
            refine rg_value (v := .int .i64 e) ?_ (hK.out _ _ rfl (Only.refl _ _))
            clear hd hout hK hsz
            generalize a.eval = ev at *
            go_simp
            (try with_reducible rfl)
          exact RgSteps.nil _
        · intro a w hS hsz hdf hout hall
          have ha := rg_close hsz hdf hout [(19, .pointer (some ⟨Z, 27, none⟩)), (20, .slice (some ⟨bb, bo, none⟩) n bc), (21, .int .i64 j), (22, .pointer (some ⟨bb, bo + j, none⟩)), (23, u.sl), (24, .slice (some ⟨lb, lo, none⟩) n lc), (25, .int .i64 j), (26, .pointer (some ⟨lb, lo + j * 3, none⟩)), (27, .pointer (some ⟨lb, lo + j * 3, none⟩)), (28, .int .u8 (k : Int)), (29, .pointer (some ⟨0, k, none⟩)), (30, .int .i64 (szL.getD k 0)), (31, .int .i64 e), (5, .int .i64 e)] (by kernel_rfl) (.cons (hall 0 rfl) (.cons (hall 1 rfl) (.cons (hall 2 rfl) (.cons (hall 3 rfl) (.cons (hall 4 rfl) (.cons (hall 5 rfl) (.cons (hall 6 rfl) (.cons (hall 7 rfl) (.cons (hall 8 rfl) (.cons (hall 9 rfl) (.cons (hall 10 rfl) (.cons (hall 11 rfl) (.cons (hall 12 rfl) (.cons (hall 13 rfl) .nil))))))))))))))
          rw [ha]
          have OF := hid hS
          clear ha hall hout hsz hdf hS
          simp only [putL, Act.put, List.setIfInBounds_toArray, List.set_cons_zero, List.set_cons_succ]
          by_cases he : e = 0
          · have NE : (e != 0) = false := by simpa using he
            have NN : (e == 0) = true := by simpa using he
            have NY := hid (NX.out he)
            clear he
            go_wp2_with fail
            go_roundg gg
            case measure => omega
            case rel => exact ⟨j + 1, JN.out, by go_num, NY.out, O.out.trans OF.out⟩
          · have NE : (e != 0) = true := by simpa using he
            have NN : (e == 0) = false := by simpa using he
            have E := hid (show res = e from RY.out he)
            clear he
            go_wp2_with fail
            go_ret
            rw [E.out]
            exact ⟨rfl, ((oW.out.trans O2.out).trans O.out).trans OF.out⟩
  · have RS := hid (show res = 2 from by rw [RE.out, if_neg (fun e => hc (e.trans HM.out.symm))])
    have n1 : ((n : Int) == (m : Int)) = false := by simp; omega
    have n2 : ((n : Int) != (m : Int)) = true := by simp; omega
    clear hc RE
    go_wp2_with fail
    go_ret
    rw [RS.out]
    exact ⟨rfl, oW.out.trans O2.out⟩
end Go.Proofs.YtpmmnjeomdjakaaDoor

end
section
set_option maxRecDepth 20000
namespace Go.Proofs.YtpmmnjeomdjakaaDoor
open Go.RowKit
set_option linter.unusedVariables false
set_option linter.unusedSimpArgs false

theorem run_e10 (a b c d e f g h i j : Int) (w : World) : (Instr.buildSlice 68 10 #[(0, .int .i64 a), (1, .int .i64 b), (2, .int .i64 c), (3, .int .i64 d), (4, .int .i64 e), (5, .int .i64 f), (6, .int .i64 g), (7, .int .i64 h), (8, .int .i64 i), (9, .int .i64 j)]).run Tryd.prog w =
    .ok (.slice (some ⟨w.heap.size, 0, none⟩) 10 10) (w.alloc (.cells #[.int .i64 a, .int .i64 b, .int .i64 c, .int .i64 d, .int .i64 e, .int .i64 f, .int .i64 g, .int .i64 h, .int .i64 i, .int .i64 j] 30)) := by kernel_rfl
theorem run_s16 (p : Addr) (w : World) : (Instr.sliceAt 22 (.pointer (some p)) none none none).run Tryd.prog w = .ok (.slice (some p) 16 16) w := by kernel_rfl
theorem run_s4 (p : Addr) (w : World) : (Instr.sliceAt 23 (.pointer (some p)) none none none).run Tryd.prog w = .ok (.slice (some p) 4 4) w := by kernel_rfl
theorem run_arr16 {o : Oper} {x : Operand} (a : Act) (w : World) (p : Addr) (hx : a.eval x = .pointer (some p)) (ho : o.op = .slice 22 x none none none) : (execOp a.eval o).run Tryd.prog w = .ok (.value (.slice (some p) 16 16)) w := by
  have h := run_s16 p w
  unfold execOp
  simp only [ho, hx]
  simp [h, Result.andThen]
theorem run_arr4 {o : Oper} {x : Operand} (a : Act) (w : World) (p : Addr) (hx : a.eval x = .pointer (some p)) (ho : o.op = .slice 23 x none none none) : (execOp a.eval o).run Tryd.prog w = .ok (.value (.slice (some p) 4 4)) w := by
  have h := run_s4 p w
  unfold execOp
  simp only [ho, hx]
  simp [h, Result.andThen]
theorem holds_pr {w : World} {k : Nat} {T : TypeId} {x : MV} {rv vv bv : Value} (h : Blk w k T (mC x rv vv bv).toArray) : HoldsI .u8 w (.slice (some ⟨k, 3, none⟩) 16 16) x.pr.l :=
  ⟨_, 16, rfl, Nat.le_refl _, by unfold maxLen; omega, .inr ⟨k, 3, rfl, fun j v hj => h.cell (mC_prl x rv vv bv hj)⟩⟩
theorem holds_sb {w : World} {k : Nat} {T : TypeId} {x : MV} {rv vv bv : Value} (h : Blk w k T (mC x rv vv bv).toArray) : HoldsI .u8 w (.slice (some ⟨k, 19, none⟩) 4 4) x.sb.l :=
  ⟨_, 4, rfl, Nat.le_refl _, by unfold maxLen; omega, .inr ⟨k, 19, rfl, fun j v hj => h.cell (mC_sbl x rv vv bv hj)⟩⟩
theorem firstE_one (l : List Int) (j : Nat) (e : Int) (h : l[j]? = some e) (h0 : firstE (l.take j) = 0) (he : e ≠ 0) : firstE l = e := by
  obtain ⟨h1, h2⟩ := List.getElem?_eq_some_iff.1 h
  have : l = l.take j ++ e :: l.drop (j + 1) := by rw [← h2, ← List.drop_eq_getElem_cons h1, List.take_append_drop]
  rw [this]
  exact firstE_stop _ _ _ h0 he
theorem por_any (a : Value) (l : List Int) (w : World) (ha : HoldsI .i64 w a l) (h1 : l.length ≤ 1000000) :
    Calls Tryd.prog 28 #[a] w fun e w' => e = .returned (.int .i64 (firstE l)) ∧ w' = w := by
  have HA := hid ha
  obtain ⟨a, c, rfl, _⟩ := ha
  obtain ⟨n, hn⟩ : ∃ n, n = l.length := ⟨_, rfl⟩
  have N1 := hid hn
  rw [← hn]
  rw [← hn] at h1
  clear hn
  have nb : (n : Int) ≤ 1000000 := by omega
  obtain ⟨r, hr⟩ : ∃ r, r = firstE l := ⟨_, rfl⟩
  rw [← hr]
  have R := hid hr
  clear hr
  go_enter Tryd.func28, Tryd.ntmps28
  go_wp2_with fail
  go_loopg [8] n (fun g t wr => ∃ j : Nat, j + g = n ∧ t = .int .i64 j ∧ firstE (l.take j) = 0 ∧ wr = w)
  case atStart => exact ⟨0, by omega, rfl, rfl, rfl⟩
  case round =>
    obtain ⟨j, hj, rfl, ht, rfl⟩ := hrel
    have J := hid hj
    have T := hid ht
    clear ht
    have jb : (j : Int) ≤ 1000000 := by omega
    have j0 : (0 : Int) ≤ (j : Int) := by omega
    by_cases hg : gk = 0
    · obtain rfl : j = n := by omega
      have i1 : ¬ (j : Int) < (j : Int) := by omega
      have E := hid (show r = 0 from by rw [R.out]; have h := T.out; rwa [List.take_of_length_le (by have := N1.out; omega)] at h)
      clear hj hg
      go_wp2_with fail
      go_ret
      rw [E.out]
      exact ⟨rfl, rfl⟩
    · have i1 : (j : Int) < (n : Int) := by omega
      obtain ⟨g, rfl⟩ : ∃ g, gk = g + 1 := ⟨gk - 1, by omega⟩
      have l1 : j < l.length := by have := N1.out; omega
      obtain ⟨x, X, T1⟩ := take_oneI l j l1
      obtain ⟨xb, xo, rfl, hx⟩ := HA.out.at X
      have X := hid X
      have T1 := hid T1
      clear hj hg l1
      by_cases he : x = 0
      · have NE : (x != 0) = false := by simpa using he
        have NN : (x == 0) = true := by simpa using he
        have NX := hid (show firstE (l.take (j + 1)) = 0 from by rw [T1.out, firstE_snoc _ _ T.out, he])
        clear he
        go_wp2_with fail
        go_roundg g
        case measure => omega
        case rel => exact ⟨j + 1, by have := J.out; omega, by go_num, NX.out, rfl⟩
      · have NE : (x != 0) = true := by simpa using he
        have NN : (x == 0) = false := by simpa using he
        have E := hid (show r = x from by rw [R.out]; exact firstE_one l j x X.out T.out he)
        clear he
        go_wp2_with fail
        go_ret
        rw [E.out]
        exact ⟨rfl, rfl⟩
/-- What the ten checks say. -/
def errsP (x : MV) (refs : Int) : List Int :=
  [fixE (x.kind == 1) [x.mode] 0 3, fixE (x.kind == 0 || x.kind == 1) [x.chroma] 0 3, fixE (x.kind == 0) x.pr.l 0 8, fixE (x.kind == 6) x.sb.l 0 3, listE x.refs (partsI x.kind) 0 (refs - 1), mvdsP x, cbpW x, fixE (hasQ x) [x.qp] (-26) 25, blksP x, pcmW x]
end Go.Proofs.YtpmmnjeomdjakaaDoor

end

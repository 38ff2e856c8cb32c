/- The program's copies, Mbs, Copy. -/
import Derived.Test.YtfmfknjjhemnoaaNpD
import Derived.Test.YtfmfknjjhemnoaaNrN
namespace Go.Proofs.Ytfmfknjjhemnoaa
open Go.RowKit
set_option linter.unusedVariables false
set_option linter.unusedSimpArgs false

/-- The first i are copies, whose lists lie in F; the others are as they were. -/
def CpE (F : Nat → Prop) (g : Nat) (els : List El) (i : Nat) (w : World) : Prop :=
  ∃ L : List El, Blk w g 40 (cellsG elC L).toArray ∧ L.map (·.1) = els.map (·.1) ∧ ∀ (j : Nat) (e : El), L[j]? = some e → if j < i then Own F w e else els[j]? = some e
/-- A slice of copies, in a block of its own; their lists are new, too. -/
def Cpd (w w' : World) (ms : List MV) (e : Ending) : Prop := ∃ g L, e = .returned (.slice (some ⟨g, 0, none⟩) ms.length ms.length) ∧ w.heap.size ≤ g ∧ Only [] w w' ∧ Blk w' g 40 (cellsG elC L).toArray ∧ L.map (·.1) = ms ∧ ∀ e, e ∈ L → Own (fun b => w.heap.size ≤ b ∧ b ≠ g) w' e
set_option maxRecDepth 100000 in
set_option maxHeartbeats 4000000 in
theorem copies_any (sv : Value) (els : List El) (w : World) (h : HoldsG elC 29 w sv els) (he : ∀ e, e ∈ els → EAt w e ∧ MSm e.1) (hl : els.length ≤ 10000) :
    Calls Try.prog 38 #[sv] w fun e w' => Cpd w w' (els.map (·.1)) e := by
  obtain ⟨a, c, rfl, _⟩ := id h
  obtain ⟨A, hA, hmk⟩ := make_mbs w els.length (by omega)
  have B1 : Blk (w.alloc (.cells A 40)) w.heap.size 40 A := Blk.new _ _ _
  have o1 : Only [] w (w.alloc (.cells A 40)) := (Only.refl [] w).alloc _
  obtain ⟨w2, hcp, B2, o2⟩ := run_copy_g (P := Try.prog) (T := 22) (T2 := 22) (ty := 3) elC_ok und_mbs info_mb els A B1 hA (h.only0 o1)
  have lg : w.heap.size < w2.heap.size := B2.lt
  obtain ⟨g, hg⟩ : ∃ g, g = w.heap.size := ⟨_, rfl⟩
  have O2 : Only [] w w2 := o1.trans2 o2 (fun y hy => .inr (by simp at hy; omega))
  rw [← hg] at hmk hcp B2 lg
  have MK := hid hmk
  have CP := hid hcp
  have OO := hid O2
  have BB := hid B2
  have HE := hid he
  have HG := hid (show g = w.heap.size ∧ g < w2.heap.size from ⟨hg, lg⟩)
  obtain ⟨n, hn⟩ : ∃ n, n = els.length := ⟨_, rfl⟩
  have HN := hid hn
  rw [← hn] at MK CP hl ⊢
  have nb : (n : Int) ≤ 10000 := by omega
  clear h he hA hmk B1 o1 hcp B2 o2 lg O2 hg hn hl
  go_enter Try.func38, Try.ntmps38
  go_wp2_with (first
    | (refine wp_make_eq rfl (.tmp 6) (.tmp 6) 22 rfl _ _ rfl rfl _ _ MK.out ?_; simp only [Act.put, List.setIfInBounds_toArray, List.set_cons_zero, List.set_cons_succ])
    | (refine wp_copy_eq (by kernel_rfl) (.tmp 8) (.tmp 9) _ _ rfl _ _ _ w2 rfl rfl CP.out ?_; simp only [Act.put, List.setIfInBounds_toArray, List.set_cons_zero, List.set_cons_succ]))
  have GI : goInt (n : Int) = .int .i64 n := by
    unfold goInt
    rfl
  go_loopg [13] n (fun k t wr => ∃ i : Nat, i + k = n ∧ t = .int .i64 i ∧ CpE (fun b => w.heap.size ≤ b ∧ b ≠ g) g els i wr ∧ Only [] w wr)
  case atStart => exact ⟨0, by omega, rfl, ⟨els, BB.out, rfl, fun j e hj => by rw [if_neg (by omega)]; exact hj⟩, OO.out⟩
  case round =>
    obtain ⟨i, hi, rfl, hX, hO⟩ := hrel
    have X := hid hX
    have O := hid hO
    clear hX hO
    have i0 : (0 : Int) ≤ (i : Int) := by omega
    by_cases hg : gk = 0
    · have i1 : ¬ (i : Int) < (n : Int) := by omega
      have ie : i = n := by omega
      have XF := hid (show CpE (fun b => w.heap.size ≤ b ∧ b ≠ g) g els n wr from by have := X.out; rw [ie] at this; exact this)
      clear hi hg X ie
      go_wp2_with fail
      go_ret
      obtain ⟨L, q1, q2, q3⟩ := XF.out
      refine ⟨g, L, by rw [List.length_map, ← HN.out]; rfl, by have := HG.out.1; omega, O.out, q1, q2, fun e he => ?_⟩
      obtain ⟨j, hj⟩ := List.getElem?_of_mem he
      have q := q3 j e hj
      rwa [if_pos (by
        have := (List.getElem?_eq_some_iff.1 hj).1
        have e1 := congrArg List.length q2
        rw [List.length_map, List.length_map] at e1
        have := HN.out
        omega)] at q
    · obtain ⟨gg, rfl⟩ : ∃ gg, gk = gg + 1 := ⟨gk - 1, by omega⟩
      have IN := hid (show i + 1 + gg = n by omega)
      have i1 : (i : Int) < (n : Int) := by omega
      have i2 : 0 ≤ (i : Int) ∧ (i : Int) < (n : Int) := ⟨i0, i1⟩
      obtain ⟨L, q1, q2, q3⟩ := X.out
      have ll : L.length = els.length := by
        have e1 := congrArg List.length q2
        rwa [List.length_map, List.length_map] at e1
      obtain ⟨e, hL⟩ : ∃ e, L[i]? = some e := ⟨_, List.getElem?_eq_getElem (by have := HN.out; omega)⟩
      have he : els[i]? = some e := by have h := q3 i e hL; rwa [if_neg (by omega)] at h
      obtain ⟨x, s1, s2, s3⟩ := e
      obtain ⟨ea, es⟩ := HE.out _ (List.mem_of_getElem? he)
      have es : MSm x := es
      have LD := hid (ho_mb (w := wr) (k := g) (off := i * 29) (x := x) (rv := s1.sl) (vv := s2.sl) (bv := s3.sl) (blk_at elC_ok q1 hL))
      have EA := hid (show MAt wr x s1.sl s2.sl s3.sl from ea.only0 O.out)
      have CC := hid (copy13_any x s1.sl s2.sl s3.sl wr EA.out (by have := es.r; omega) (by have := es.v; omega) (by have := es.b; omega) (fun l hl => by have := es.i l hl; omega))
      have Q1 := hid q1
      have Q2 := hid q2
      have Q3 := hid q3
      have IL := hid (show i < L.length by have := HN.out; omega)
      have HL := hid hL
      have QL := hid (show i * 29 + 29 ≤ (cellsG elC L).toArray.size by simp [cellsG_length elC_ok]; have := IL.out; omega)
      clear hi hg q1 q2 q3 ll hL he ea es X
      go_wp2_with (refine load_atA rfl 40 (.tmp 20) rfl ⟨g, i * 29, none⟩ (mC x s1.sl s2.sl s3.sl) rfl LD.out ?_; simp only [Act.put, List.setIfInBounds_toArray, List.set_cons_zero, List.set_cons_succ])
      refine CC.out.mono ?_
      rintro e w3 ⟨r1, r2, r3, rfl, ow⟩
      obtain ⟨t1, t2, t3, rfl, rfl, rfl⟩ := ow.at.sl
      have b3 := Q1.out.only ow.only (by simp)
      have OW := hid ow
      have one := hid (one_mC x (rv := t1.sl) (vv := t2.sl) (bv := t3.sl) rfl rfl rfl)
      clear ow
      unfold mV
      go_wp2_with (refine store_blk rfl 40 (.tmp 23) (.tmp 22) rfl g (i * 29) _ _ (mC x t1.sl t2.sl t3.sl) rfl rfl (info_mb' _ _ _ _) b3 QL.out one.out ?_; intro w4 hB4 hO4)
      have O4 := hid hO4
      have B4 := hid (show Blk w4 g 40 (cellsG elC (L.set i (x, t1, t2, t3))).toArray from (setsA_row elC_ok L i (x, t1, t2, t3) IL.out) ▸ hB4)
      have NX := hid (show CpE (fun b => w.heap.size ≤ b ∧ b ≠ g) g els (i + 1) w4 from by
        refine ⟨_, B4.out, ?_, fun j e hj => ?_⟩
        · rw [List.map_set, ← Q2.out]
          show (L.map (·.1)).set i x = L.map (·.1)
          apply List.ext_getElem?
          intro k
          by_cases hk : i = k
          · subst hk
            rw [List.getElem?_set_self (by rw [List.length_map]; exact IL.out), List.getElem?_map, HL.out]
            rfl
          · rw [List.getElem?_set_ne hk]
        · have far : ∀ y, y ∈ [g] → ¬ (w.heap.size ≤ y ∧ y ≠ g) := fun y hy h => by simp at hy; exact h.2 hy
          by_cases hk : i = j
          · subst hk
            rw [List.getElem?_set_self IL.out] at hj
            obtain rfl := Option.some.inj hj
            rw [if_pos (by omega)]
            have ws := O.out.size
            have gl := Q1.out.lt
            have o0 := OW.out.own
            exact (o0.mono (fun b _ hb => ⟨by omega, by omega⟩)).step O4.out far
          · rw [List.getElem?_set_ne hk] at hj
            have q := Q3.out j e hj
            by_cases hlt : j < i
            · rw [if_pos hlt] at q
              rw [if_pos (by omega)]
              exact (q.step OW.out.only (by simp)).step O4.out far
            · rw [if_neg hlt] at q
              rw [if_neg (by omega)]
              exact q)
      have ON := hid (show Only [] w w4 from (O.out.trans OW.out.only).trans2 O4.out (fun y hy => .inr (by have := HG.out.1; simp at hy; omega)))
      clear hB4 hO4
      go_wp2_with fail
      go_roundg gg
      case measure => omega
      case rel => exact ⟨i + 1, IN.out, by go_num, NX.out, ON.out⟩
set_option maxHeartbeats 1000000 in
theorem mbs_any {F : Nat → Prop} {nb : Nat} {f wd : Int} {ms : List MV} (w : World) (h : NAt 59 F w nb f wd ms) :
    Calls Try.prog 23 #[.pointer (some ⟨nb, 0, none⟩)] w fun e w' => Cpd w w' ms e := by
  obtain ⟨sv, els, r⟩ := h.read
  obtain ⟨a, c, e, hl⟩ := r.sl
  have c2 := r.b.cell (i := 2) (v := .slice a ms.length c) (by rw [← e]; rfl)
  have hn := h.n
  have f0 := h.f0
  have CC := hid (copies_any sv.sl els w r.h (fun e he => ⟨r.e e he, h.sm e.1 (by rw [← r.m]; exact List.mem_map_of_mem he)⟩) (by omega))
  rw [r.m, e] at CC
  clear h r e hl hn f0
  go_enter Try.func23, Try.ntmps23
  go_wp2_with fail
  refine CC.out.mono ?_
  rintro e w1 ⟨g, L, rfl, q⟩
  have Q := hid q
  clear q
  go_wp2_with fail
  go_ret
  exact ⟨g, L, rfl, Q.out⟩
theorem mbs_nil (w : World) : Calls Try.prog 23 #[.pointer none] w fun e w' => e = .returned (.slice none 0 0) ∧ Only [] w w' := by
  go_enter Try.func23, Try.ntmps23
  go_wp2_with fail
  go_ret
  exact ⟨rfl, Only.refl _ _⟩
theorem ncopy_nil (w : World) : Calls Try.prog 24 #[.pointer none] w fun e w' => e = .returned (.pointer none) ∧ Only [] w w' := by
  go_enter Try.func24, Try.ntmps24
  go_wp2_with fail
  go_ret
  exact ⟨rfl, Only.refl _ _⟩
/-- An object whose memory is new. -/
def NewN (T : TypeId) (w w' : World) (f wd : Int) (ms : List MV) (e : Ending) : Prop := ∃ nb F, e = .returned (.pointer (some ⟨nb, 0, none⟩)) ∧ NAt T F w' nb f wd ms ∧ (∀ g, F g → w.heap.size ≤ g) ∧ Only [] w w'
set_option maxHeartbeats 4000000 in
theorem ncopy_any {F : Nat → Prop} {nb : Nat} {f wd : Int} {ms : List MV} (w : World) (h : NAt 59 F w nb f wd ms) :
    Calls Try.prog 24 #[.pointer (some ⟨nb, 0, none⟩)] w fun e w' => NewN 59 w w' f wd ms e := by
  obtain ⟨sv, els, r⟩ := h.read
  obtain ⟨a, c, e, hl⟩ := r.sl
  have B := hid r.b
  rw [e] at B
  have hn := h.n
  have f0 := h.f0
  have HH := hid h
  have RR := hid r
  have CC := hid (fun w' (o : Only [] w w') => copies_any sv.sl els w' (r.h.only0 o) (fun e he => ⟨(r.e e he).only0 o, h.sm e.1 (by rw [← r.m]; exact List.mem_map_of_mem he)⟩) (by omega))
  rw [r.m, e] at CC
  clear h r e hl hn f0 RR
  go_enter Try.func24, Try.ntmps24
  go_upto_region 3 with (fail)
  refine wp_region_tail (fun w' => Only [] w w') 13 16 (by kernel_rfl) rfl (Only.refl [] w).drew (fun hS => ?_)
  generalize w.drew = wx at *
  refine wpAnyT_take 0 (v := ?va0) rfl (by kernel_rfl) (fun _ _ _ h => h) (Or.inl ⟨by rfl, ?ya0⟩) hS ?ra0
  case ya0 =>
    intro w hSw
    have hc0 := ((B.out.only hSw (by simp)).cell (i := 0) (v := .int .i64 f) rfl)
    have hc1 := ((B.out.only hSw (by simp)).cell (i := 1) (v := .int .i64 wd) rfl)
    have hc2 := ((B.out.only hSw (by simp)).cell (i := 2) (v := .slice a ms.length c) rfl)
    go_simp
    (try with_reducible rfl)
  (try simp only [Act.put, List.setIfInBounds_toArray, List.set_cons_zero, List.set_cons_succ])
  refine wpAnyT_take 1 (v := ?va1) rfl (by kernel_rfl) (fun _ _ _ h => h) (Or.inl ⟨by rfl, ?ya1⟩) hS ?ra1
  case ya1 =>
    intro w hSw
    have hc0 := ((B.out.only hSw (by simp)).cell (i := 0) (v := .int .i64 f) rfl)
    have hc1 := ((B.out.only hSw (by simp)).cell (i := 1) (v := .int .i64 wd) rfl)
    have hc2 := ((B.out.only hSw (by simp)).cell (i := 2) (v := .slice a ms.length c) rfl)
    go_simp
    (try with_reducible rfl)
  (try simp only [Act.put, List.setIfInBounds_toArray, List.set_cons_zero, List.set_cons_succ])
  refine wpAnyT_take 2 (v := ?va2) rfl (by kernel_rfl) (fun _ _ _ h => h) (Or.inl ⟨by rfl, ?ya2⟩) hS ?ra2
  case ya2 =>
    intro w hSw
    have hc0 := ((B.out.only hSw (by simp)).cell (i := 0) (v := .int .i64 f) rfl)
    have hc1 := ((B.out.only hSw (by simp)).cell (i := 1) (v := .int .i64 wd) rfl)
    have hc2 := ((B.out.only hSw (by simp)).cell (i := 2) (v := .slice a ms.length c) rfl)
    go_simp
    (try with_reducible rfl)
  (try simp only [Act.put, List.setIfInBounds_toArray, List.set_cons_zero, List.set_cons_succ])
  refine wpAnyT_take 3 (v := ?va3) rfl (by kernel_rfl) (fun _ _ _ h => h) (Or.inl ⟨by rfl, ?ya3⟩) hS ?ra3
  case ya3 =>
    intro w hSw
    have hc0 := ((B.out.only hSw (by simp)).cell (i := 0) (v := .int .i64 f) rfl)
    have hc1 := ((B.out.only hSw (by simp)).cell (i := 1) (v := .int .i64 wd) rfl)
    have hc2 := ((B.out.only hSw (by simp)).cell (i := 2) (v := .slice a ms.length c) rfl)
    go_simp
    (try with_reducible rfl)
  (try simp only [Act.put, List.setIfInBounds_toArray, List.set_cons_zero, List.set_cons_succ])
  refine wpAnyT_take 4 (v := ?va4) rfl (by kernel_rfl) (fun _ _ _ h => h) (Or.inl ⟨by rfl, ?ya4⟩) hS ?ra4
  case ya4 =>
    intro w hSw
    have hc0 := ((B.out.only hSw (by simp)).cell (i := 0) (v := .int .i64 f) rfl)
    have hc1 := ((B.out.only hSw (by simp)).cell (i := 1) (v := .int .i64 wd) rfl)
    have hc2 := ((B.out.only hSw (by simp)).cell (i := 2) (v := .slice a ms.length c) rfl)
    go_simp
    (try with_reducible rfl)
  (try simp only [Act.put, List.setIfInBounds_toArray, List.set_cons_zero, List.set_cons_succ])
  refine wpAnyT_take 5 (v := ?va5) rfl (by kernel_rfl) (fun _ _ _ h => h) (Or.inl ⟨by rfl, ?ya5⟩) hS ?ra5
  case ya5 =>
    intro w hSw
    have hc0 := ((B.out.only hSw (by simp)).cell (i := 0) (v := .int .i64 f) rfl)
    have hc1 := ((B.out.only hSw (by simp)).cell (i := 1) (v := .int .i64 wd) rfl)
    have hc2 := ((B.out.only hSw (by simp)).cell (i := 2) (v := .slice a ms.length c) rfl)
    go_simp
    (try with_reducible rfl)
  (try simp only [Act.put, List.setIfInBounds_toArray, List.set_cons_zero, List.set_cons_succ])
  refine wpAnyT_take 6 (v := ?va6) rfl (by kernel_rfl) (fun _ _ _ h => h) (Or.inl ⟨by rfl, ?ya6⟩) hS ?ra6
  case ya6 =>
    intro w hSw
    have hc0 := ((B.out.only hSw (by simp)).cell (i := 0) (v := .int .i64 f) rfl)
    have hc1 := ((B.out.only hSw (by simp)).cell (i := 1) (v := .int .i64 wd) rfl)
    have hc2 := ((B.out.only hSw (by simp)).cell (i := 2) (v := .slice a ms.length c) rfl)
    go_simp
    (try with_reducible rfl)
  (try simp only [Act.put, List.setIfInBounds_toArray, List.set_cons_zero, List.set_cons_succ])
  refine wpAnyT_take 7 (v := ?va7) rfl (by kernel_rfl) (fun _ _ _ h => h) (Or.inl ⟨by rfl, ?ya7⟩) hS ?ra7
  case ya7 =>
    intro w hSw
    have hc0 := ((B.out.only hSw (by simp)).cell (i := 0) (v := .int .i64 f) rfl)
    have hc1 := ((B.out.only hSw (by simp)).cell (i := 1) (v := .int .i64 wd) rfl)
    have hc2 := ((B.out.only hSw (by simp)).cell (i := 2) (v := .slice a ms.length c) rfl)
    go_simp
    (try with_reducible rfl)
  (try simp only [Act.put, List.setIfInBounds_toArray, List.set_cons_zero, List.set_cons_succ])
  refine wpAnyT_take 8 (v := ?va8) rfl (by kernel_rfl) (fun _ _ _ h => h) (Or.inl ⟨by rfl, ?ya8⟩) hS ?ra8
  case ya8 =>
    intro w hSw
    have hc0 := ((B.out.only hSw (by simp)).cell (i := 0) (v := .int .i64 f) rfl)
    have hc1 := ((B.out.only hSw (by simp)).cell (i := 1) (v := .int .i64 wd) rfl)
    have hc2 := ((B.out.only hSw (by simp)).cell (i := 2) (v := .slice a ms.length c) rfl)
    go_simp
    (try with_reducible rfl)
  (try simp only [Act.put, List.setIfInBounds_toArray, List.set_cons_zero, List.set_cons_succ])
  refine wpAnyT_take 9 (v := ?va9) rfl (by kernel_rfl) (fun _ _ _ h => h) (Or.inl ⟨by rfl, ?ya9⟩) hS ?ra9
  case ya9 =>
    intro w hSw
    have hc0 := ((B.out.only hSw (by simp)).cell (i := 0) (v := .int .i64 f) rfl)
    have hc1 := ((B.out.only hSw (by simp)).cell (i := 1) (v := .int .i64 wd) rfl)
    have hc2 := ((B.out.only hSw (by simp)).cell (i := 2) (v := .slice a ms.length c) rfl)
    go_simp
    (try with_reducible rfl)
  (try simp only [Act.put, List.setIfInBounds_toArray, List.set_cons_zero, List.set_cons_succ])
  refine wpAnyT_take 10 (v := ?va10) rfl (by kernel_rfl) (fun _ _ _ h => h) (Or.inl ⟨by rfl, ?ya10⟩) hS ?ra10
  case ya10 =>
    intro w hSw
    have hc0 := ((B.out.only hSw (by simp)).cell (i := 0) (v := .int .i64 f) rfl)
    have hc1 := ((B.out.only hSw (by simp)).cell (i := 1) (v := .int .i64 wd) rfl)
    have hc2 := ((B.out.only hSw (by simp)).cell (i := 2) (v := .slice a ms.length c) rfl)
    go_simp
    (try with_reducible rfl)
  (try simp only [Act.put, List.setIfInBounds_toArray, List.set_cons_zero, List.set_cons_succ])
  refine wpAnyT_take 11 (v := ?va11) rfl (by kernel_rfl) (fun _ _ _ h => h) (Or.inl ⟨by rfl, ?ya11⟩) hS ?ra11
  case ya11 =>
    intro w hSw
    have hc0 := ((B.out.only hSw (by simp)).cell (i := 0) (v := .int .i64 f) rfl)
    have hc1 := ((B.out.only hSw (by simp)).cell (i := 1) (v := .int .i64 wd) rfl)
    have hc2 := ((B.out.only hSw (by simp)).cell (i := 2) (v := .slice a ms.length c) rfl)
    go_simp
    (try with_reducible rfl)
  (try simp only [Act.put, List.setIfInBounds_toArray, List.set_cons_zero, List.set_cons_succ])
  refine wpAnyT_call 12 rfl (by kernel_rfl) (fun K hK => ?_)
  go_simp
  refine (CC.out _ hS).mono ?_
  rintro e w1 ⟨g, L, rfl, q1, q2, q3, q4, q5⟩
  have hS1 : Only [] w w1 := hS.trans q2
  refine hK.out _ _ hS1 ?_
  clear hK K
  (try simp only [Act.put, List.setIfInBounds_toArray, List.set_cons_zero, List.set_cons_succ])
  refine wpAnyT_tail _ rfl (by kernel_rfl) ?_
  simp only [List.drop_succ_cons, List.drop_zero]
  have S0 := hid hS
  have S1 := hid hS1
  have Q1 := hid q1
  have Q3 := hid q3
  have Q4 := hid q4
  have Q5 := hid q5
  clear q1 q2 q3 q4 q5 hS hS1
  go_wp2_with fail
  go_ret
  have hb := S0.out.size
  have hg := Q3.out.lt
  have g0 := Q1.out
  have oa : Only [] w1 (w1.alloc (.cells (nrC f wd (.slice (some ⟨g, 0, none⟩) ms.length ms.length)).toArray 59)) := (Only.refl [] w1).alloc _
  have ll : L.length = ms.length := by rw [← Q4.out, List.length_map]
  have hR : RowG elC 29 40 w1 (.slice (some ⟨g, 0, none⟩) L.length L.length) L := rowG_blk elC_ok Q3.out (by have := HH.out.n; have := HH.out.f0; unfold maxLen; omega)
  rw [ll] at hR
  refine ⟨w1.heap.size, fun b => wx.heap.size ≤ b ∧ b < w1.heap.size + 1, rfl, ⟨fun b hb => by rw [World.size_alloc]; exact hb.2, ⟨by omega, by omega⟩, HH.out.f0, HH.out.f1, HH.out.w1, HH.out.w2, HH.out.n, HH.out.sm, (some ⟨g, 0, none⟩, ms.length, ms.length), L, Blk.new _ _ _, hR.only oa (by simp), Q4.out, ?_, ?_⟩, fun b hb => by omega, S1.out.trans oa⟩
  · intro b hb
    simp [SlV.sl, ownG, Value.ownBlock] at hb
    subst hb
    exact ⟨⟨by omega, by omega⟩, by omega⟩
  · intro d hd
    refine (((Q5.out d hd).mono (G := fun b => (wx.heap.size ≤ b ∧ b < w1.heap.size + 1) ∧ b ≠ w1.heap.size ∧ b ∉ ownG (SlV.sl (some ⟨g, 0, none⟩, ms.length, ms.length))) (fun b hb hF => ⟨⟨hF.1, by omega⟩, by omega, ?_⟩)).step oa (by simp)).keep
    intro h
    simp [SlV.sl, ownG, Value.ownBlock] at h
    exact hF.2 h
end Go.Proofs.Ytfmfknjjhemnoaa

/- The reference's Put. -/
import Derived.Test.YtjjjfmnhdnajkaaGreatDoorMg15
import Derived.Test.YtjjjfmnhdnajkaaGreatDoorMg18
import Derived.Test.YtjjjfmnhdnajkaaGreatDoorMg6
namespace Go.Proofs.YtjjjfmnhdnajkaaGreatDoor
open Go.RowKit
set_option linter.unusedVariables false
set_option linter.unusedSimpArgs false

/-- The bits that were written since W, and a bound of their number. -/
def PS (W w : World) (b : Nat) (sv : Value) (M : List Bool) (n : Nat) : Prop := M.length ≤ n ∧ ∃ sv', RPut W w b sv sv' M
section
variable {W w : World} {b n : Nat} {sv : Value} {M : List Bool}
theorem PS.only (h : PS W w b sv M n) : Only (b :: ownOf sv) W w := by obtain ⟨_, sv', h⟩ := h; exact h.only
theorem PS.up (h : PS W w b sv M n) {M' : List Bool} {n' : Nat} (e : M = M') (hn : n ≤ n') : PS W w b sv M' n' := by
  subst e; exact ⟨Nat.le_trans h.1 hn, h.2⟩
theorem PS.ue (h : PS W w b sv M n) (hn : n ≤ 500000) {v : Int} (h0 : 0 ≤ v) (h1 : v ≤ 4294967294) :
    Calls Tryz.prog 58 #[.pointer (some ⟨b, 0, none⟩), .int .u64 v] w fun e w' => (∃ z, e = .returned z) ∧ PS W w' b sv (M ++ ueBits v.toNat) (n + 100) := by
  obtain ⟨hl, sv', P⟩ := h
  obtain ⟨V, rfl⟩ := Int.eq_ofNat_of_zero_le h0
  refine (rputue_yes b sv' M V w P.wr (by omega) (by omega)).mono fun e w' ⟨he, sv2, hP⟩ => ⟨⟨_, he⟩, ?_, sv2, P.trans hP⟩
  have := ueBits_le V (by omega)
  rw [List.length_append]
  simp only [Int.ofNat_eq_natCast, Int.toNat_natCast]
  omega
theorem PS.u (h : PS W w b sv M n) (hn : n ≤ 500000) {k v : Int} (k0 : 0 ≤ k) (k1 : k ≤ 16) (h0 : 0 ≤ v) (h1 : v ≤ 2 ^ k.toNat - 1) :
    Calls Tryz.prog 19 #[.pointer (some ⟨b, 0, none⟩), .int .i64 k, .int .u64 v] w fun e w' => (∃ z, e = .returned z) ∧ PS W w' b sv (M ++ bitsOf k.toNat v.toNat) (n + 100) := by
  obtain ⟨hl, sv', P⟩ := h
  obtain ⟨V, rfl⟩ := Int.eq_ofNat_of_zero_le h0
  obtain ⟨K, rfl⟩ := Int.eq_ofNat_of_zero_le k0
  have e : (2 : Int) ^ K = ((2 ^ K : Nat) : Int) := by rw [Int.natCast_pow]; rfl
  simp only [Int.ofNat_eq_natCast, Int.toNat_natCast] at *
  refine (rput_yes b sv' M K V w P.wr (by omega) (by rw [e] at h1; omega) (by omega)).mono fun e w' ⟨he, sv2, hP⟩ => ⟨⟨_, he⟩, ?_, sv2, P.trans hP⟩
  rw [List.length_append, length_bitsOf]
  omega
theorem PS.se (h : PS W w b sv M n) (hn : n ≤ 500000) {v : Int} (h0 : -100 ≤ v) (h1 : v ≤ 100) :
    Calls Tryz.prog 61 #[.pointer (some ⟨b, 0, none⟩), .int .i64 v] w fun e w' => (∃ z, e = .returned z) ∧ PS W w' b sv (M ++ ueBits (seNum v)) (n + 100) := by
  obtain ⟨hl, sv', P⟩ := h
  refine (rputse_yes b sv' M v w P.wr (by omega) (by omega) (by omega)).mono fun e w' ⟨he, sv2, hP⟩ => ⟨⟨_, he⟩, ?_, sv2, P.trans hP⟩
  have := ueBits_le (seNum v) (by have := seNum_le (v := v) (by omega) (by omega); omega)
  rw [List.length_append]
  omega
theorem PS.bit (h : PS W w b sv M n) (hn : n ≤ 500000) (v : Bool) :
    Calls Tryz.prog 59 #[.pointer (some ⟨b, 0, none⟩), .bool v] w fun e w' => (∃ z, e = .returned z) ∧ PS W w' b sv (M ++ [v]) (n + 100) := by
  obtain ⟨hl, sv', P⟩ := h
  refine (rbit10_any b sv' M v w P.wr (by omega)).mono fun e w' ⟨he, sv2, hP⟩ => ⟨he, ?_, sv2, P.trans hP⟩
  rw [List.length_append]
  simp
  omega
theorem PS.list (h : PS W w b sv M n) (hn : n ≤ 500000) (m : Bool) {a : Value} {l : List (Int × Int × Int)} (ha : HoldsM W a l) (hk : OksM l) (hd : Aside a l b sv) (hc : checkI m l = 0) :
    Calls Tryz.prog 60 #[.pointer (some ⟨b, 0, none⟩), .bool m, a] w fun e w' => (∃ z, e = .returned z) ∧ PS W w' b sv (M ++ listB m l) (n + 13000) := by
  obtain ⟨hl, sv', P⟩ := h
  have ha' : HoldsM w a l := ha.only2 P.only (fun ad n c e hl hm => by
    have := hd ad n c e hl
    rcases List.mem_cons.1 hm with e | e
    · exact this.1 e
    · exact this.2 e)
  have hd' : Aside a l b sv' := fun ad n c e hl => by
    refine ⟨(hd ad n c e hl).1, fun hm => ?_⟩
    rcases P.own _ hm with e2 | e2
    · exact (hd ad n c e hl).2 e2
    · subst e
      exact absurd (ha.lt hl) (by omega)
  have key := rput9_any m b sv' M a l w P.wr ha' hk hd' (by omega)
  rw [show putI m M l = (0, M ++ listB m l) from by unfold putI; rw [hc]; rfl] at key
  refine key.mono fun e w' ⟨he, sv2, hP⟩ => ⟨⟨_, he⟩, ?_, sv2, P.trans hP⟩
  have := listB_le hc
  rw [List.length_append]
  omega
end
/-- What is known of a valid header's fields. -/
structure Vals (un : UN) (x : HV) : Prop where
  fr : 0 ≤ x.fr ∧ x.fr ≤ 2 ^ un.s.fb.toNat - 1
  fr2 : x.fr ≤ 65535
  idr : un.idr = true → 0 ≤ x.idr ∧ x.idr ≤ 65535
  poc : 0 ≤ x.poc ∧ x.poc ≤ 2 ^ un.s.pb.toNat - 1
  poc2 : x.poc ≤ 65535
  over : x.intra = true → x.over = false
  refs : x.over = true → 1 ≤ x.refs ∧ x.refs ≤ 32
  listed : x.intra = true → x.listed = false
  mods : x.listed = true → checkI false x.mods = 0
  ad : adH un = false → x.ad = false
  marks : x.ad = true → checkI true x.marks = 0
  ini : iniH un x = true → 0 ≤ x.ini ∧ x.ini ≤ 2
  qp : -100 ≤ x.qp ∧ x.qp ≤ 100
  fil : un.p.db = true → 0 ≤ x.fil ∧ x.fil ≤ 2
  a : fltH un x = true → -6 ≤ x.a ∧ x.a ≤ 6
  b : fltH un x = true → -6 ≤ x.b ∧ x.b ≤ 6
theorem pow_le16 {k : Int} (h0 : 0 ≤ k) (h1 : k ≤ 16) {v : Int} (hv : v ≤ 2 ^ k.toNat - 1) : v ≤ 65535 := by
  obtain ⟨K, rfl⟩ := Int.eq_ofNat_of_zero_le h0
  have e : (2 : Int) ^ K = ((2 ^ K : Nat) : Int) := by rw [Int.natCast_pow]; rfl
  have h2 : 2 ^ K ≤ 2 ^ 16 := Nat.pow_le_pow_right (by decide) (by omega)
  have p16 : (2 : Nat) ^ 16 = 65536 := by decide
  simp only [Int.ofNat_eq_natCast, Int.toNat_natCast] at hv
  rw [e] at hv
  omega
theorem numE_has {has : Bool} {v : Int} {c : Cd} (h : numE has v c = 0) (hh : has = true) : c.lo ≤ v ∧ v ≤ c.hi := by
  subst hh; exact numC_iff.1 h
theorem vals_of {un : UN} {x : HV} (hs : okS un.s = true) (hp : okP un.p = true) (h : restE un x 15 0 = 0) : Vals un x := by
  obtain ⟨c1, c2, c3⟩ := unOk_cd hs hp
  have R := fun j => rest_all h j
  have f0 := numE_has (R 0) rfl
  have f2 := numE_has (R 2) rfl
  have f11 := numE_has (R 11) rfl
  refine ⟨f0, pow_le16 c1.1 c1.2 f0.2, fun h => numE_has (R 1) h, f2, pow_le16 c2.1 c2.2 f2.2, fun h => ?_, fun h => numE_has (R 4) h, fun h => ?_, fun h => ?_, fun h => ?_, fun h => ?_, fun h => numE_has (R 10) h, ?_, fun h => numE_has (R 12) h, fun h => numE_has (R 13) h, fun h => numE_has (R 14) h⟩
  · have := R 3
    simp only [stepE, flagE, h] at this
    cases k : x.over
    · rfl
    · rw [k] at this; exact absurd this (by decide)
  · have := R 5
    simp only [stepE, flagE, h] at this
    cases k : x.listed
    · rfl
    · rw [k] at this; exact absurd this (by decide)
  · have := R 6
    simp only [stepE, lstE, h, if_true] at this
    exact this
  · have := R 8
    simp only [stepE, flagE, h] at this
    cases k : x.ad
    · rfl
    · rw [k] at this; exact absurd this (by decide)
  · have := R 9
    simp only [stepE, lstE, h, if_true] at this
    exact this
  · simp only [qpC, Cd.lo, Cd.hi] at f11
    simp only [cdOk, qpC] at c3
    omega
theorem ue_zero (v : Int) (hi : Int) : cdBits (.ue 0 hi) v = ueBits v.toNat := by simp only [cdBits, Int.sub_zero]

theorem stepB_no {un : UN} {x : HV} {M : List Bool} {j : Nat} (h : stepB un x j = []) : M = M ++ stepB un x j := by rw [h, List.append_nil]
theorem numB_no {has : Bool} {v : Int} {c : Cd} (h : has = false) : numB has v c = [] := by subst h; rfl
theorem flagB_no {has v : Bool} (h : has = false) : flagB has v = [] := by subst h; rfl
theorem lstB_no {has m : Bool} {l : List (Int × Int × Int)} (h : has = false) : lstB has m l = [] := by subst h; rfl
theorem numB_ue {has : Bool} {v hi : Int} (h : has = true) : numB has v (.ue 0 hi) = ueBits v.toNat := by subst h; rw [numB, if_pos rfl, ue_zero]
theorem numB_se {has : Bool} {v lo hi : Int} (h : has = true) : numB has v (.se lo hi) = ueBits (seNum v) := by subst h; rfl
theorem flagB_yes {has v : Bool} (h : has = true) : flagB has v = [v] := by subst h; rfl
theorem lstB_yes {has m : Bool} {l : List (Int × Int × Int)} (h : has = true) : lstB has m l = listB m l := by subst h; rfl
set_option maxRecDepth 100000 in
set_option maxHeartbeats 16000000 in
theorem rhput_yes (x : HV) (un : UN) (ma ka : Option Addr) (mc kc b : Nat) (sv : Value) (L : List Bool) (w : World) (h1 : HoldsM w (.slice ma x.mods.length mc) x.mods) (h2 : HoldsM w (.slice ka x.marks.length kc) x.marks) (o1 : OksM x.mods) (o2 : OksM x.marks) (r0 : 0 ≤ un.ref) (q0 : -9223372036854775808 ≤ x.qp) (q1 : x.qp ≤ 9223372036854775807)
    (hw : RWr w b sv L) (a1 : Aside (.slice ma x.mods.length mc) x.mods b sv) (a2 : Aside (.slice ka x.marks.length kc) x.marks b sv) (hL : L.length ≤ 90000) (hC0 : checkH un x = 0) :
    Calls Tryz.prog 26 #[.pointer (some ⟨b, 0, none⟩), hV x (.slice ma x.mods.length mc) (.slice ka x.marks.length kc), .int .u8 un.ref, .bool un.idr, pV un.p, sV un.s] w fun e w' => e = .returned (.int .i64 0) ∧ ∃ sv', RPut w w' b sv sv' (L ++ bitsH un x) := by
  obtain ⟨u0, u1, u2⟩ := checkH_ok hC0
  obtain ⟨t1, t2, t3, t4⟩ := un_ok u0
  have BG := hid (begin_ok t2 t3 u1)
  have VV := hid (vals_of t2 t3 u2)
  have UO := hid (unOk_cd t2 t3)
  have O1 := hid ((((Only.refl [] w).alloc (.cells (hC x (.slice ma x.mods.length mc) (.slice ka x.marks.length kc)).toArray 34)).alloc (.cells (pL un.p).toArray 24)).alloc (.cells (sL un.s).toArray 27))
  obtain ⟨W1, hW1⟩ : ∃ W1, W1 = ((w.alloc (.cells (hC x (.slice ma x.mods.length mc) (.slice ka x.marks.length kc)).toArray 34)).alloc (.cells (pL un.p).toArray 24)).alloc (.cells (sL un.s).toArray 27) := ⟨_, rfl⟩
  have NM := hid (show w.heap.size ∉ b :: ownOf sv ∧ w.heap.size + 1 ∉ b :: ownOf sv ∧ w.heap.size + 1 + 1 ∉ b :: ownOf sv from by
    refine ⟨fun h => ?_, fun h => ?_, fun h => ?_⟩
    all_goals
      rcases List.mem_cons.1 h with e | e
      · have := hw.lt; omega
      · have := hw.row.lt _ e; omega)
  have bX : Blk W1 w.heap.size 34 (hC x (.slice ma x.mods.length mc) (.slice ka x.marks.length kc)).toArray := hW1 ▸ ((Blk.new w _ _).only (((Only.refl [] _).alloc _).alloc _) (by simp))
  have bP : Blk W1 (w.heap.size + 1) 24 (pL un.p).toArray := by
    have := (Blk.new (w.alloc (.cells (hC x (.slice ma x.mods.length mc) (.slice ka x.marks.length kc)).toArray 34)) 24 (pL un.p).toArray).only ((Only.refl [] _).alloc (.cells (sL un.s).toArray 27)) (by simp)
    rw [World.size_alloc] at this
    exact hW1 ▸ this
  have bS : Blk W1 (w.heap.size + 1 + 1) 27 (sL un.s).toArray := by
    have := Blk.new ((w.alloc (.cells (hC x (.slice ma x.mods.length mc) (.slice ka x.marks.length kc)).toArray 34)).alloc (.cells (pL un.p).toArray 24)) 27 (sL un.s).toArray
    rw [World.size_alloc, World.size_alloc] at this
    exact hW1 ▸ this
  rw [← hW1] at O1
  have CK := hid (rhcheck_any x un _ _ W1 (h1.only0 O1.out) (h2.only0 O1.out) o1 o2 r0 q0 q1)
  rw [hC0] at CK
  have HH := hid (And.intro h1 h2)
  have OA := hid (And.intro (And.intro o1 a1) (And.intro o2 a2))
  have HW := hid hw
  have HL := hid hL
  have BX1 := hid bX
  have BP1 := hid bP
  have BS1 := hid bS
  have BT := hid (show bitsH un x = beginB x ++ (stepB un x 0 ++ (stepB un x 1 ++ (stepB un x 2 ++ (stepB un x 3 ++ (stepB un x 4 ++ (stepB un x 5 ++ (stepB un x 6 ++ (stepB un x 7 ++ (stepB un x 8 ++ (stepB un x 9 ++ (stepB un x 10 ++ (stepB un x 11 ++ (stepB un x 12 ++ (stepB un x 13 ++ stepB un x 14)))))))))))))) from by
    unfold bitsH
    simp only [restB, Nat.reduceAdd, List.append_nil])
  obtain ⟨BB, hBB⟩ : ∃ BB, BB = bitsH un x := ⟨_, rfl⟩
  rw [← hBB] at BT ⊢
  have R0 := hid r0
  clear hC0 u0 u1 u2 t1 t2 t3 t4 h1 h2 o1 o2 a1 a2 hw hL bX bP bS q0 q1 hBB r0
  simp only [hV, hC] at hW1 CK ⊢
  simp only [pL, sL] at hW1
  go_enter Tryz.func26, Tryz.ntmps26
  go_upto_region 3 with (fail)
  rw [← hW1]
  clear hW1
  go_wp2_with (first
    | (refine load_blk rfl 34 _ rfl w.heap.size _ (hC x (.slice ma x.mods.length mc) (.slice ka x.marks.length kc)) rfl BX1.out (hl_hdr _ _ _ _) ?_)
    | (refine load_blk rfl 24 _ rfl (w.heap.size + 1) _ (pL un.p) rfl BP1.out (hl_pps _ _) ?_)
    | (refine load_blk rfl 27 _ rfl (w.heap.size + 1 + 1) _ (sL un.s) rfl BS1.out (hl_sps _ _) ?_))
  refine CK.out.mono ?_
  rintro e W2 ⟨rfl, oC⟩
  have O2 := hid (O1.out.trans oC)
  have bX := BX1.out.only oC (by simp)
  have bP := BP1.out.only oC (by simp)
  have bS := BS1.out.only oC (by simp)
  have BX := hid (fun w' (o : Only (b :: ownOf sv) W2 w') => bX.only o NM.out.1)
  have BP := hid (fun w' (o : Only (b :: ownOf sv) W2 w') => bP.only o NM.out.2.1)
  have BS := hid (fun w' (o : Only (b :: ownOf sv) W2 w') => bS.only o NM.out.2.2)
  have H1 := hid (HH.out.1.only0 O2.out)
  have H2 := hid (HH.out.2.only0 O2.out)
  have Q := hid (show PS W2 W2 b sv L 90000 from ⟨HL.out, sv, RPut.same (HW.out.only O2.out (by simp) (by simp))⟩)
  have END := hid (fun w' M n (h : PS W2 w' b sv M n) => show ∃ sv', RPut w w' b sv sv' M from by
    obtain ⟨_, sv', P⟩ := h
    exact ⟨sv', P.wr, fun g hg => (P.own g hg).imp id (fun e => Nat.le_trans O2.out.size e), (O2.out.mono (by simp)).trans P.only⟩)
  clear CK oC bX bP bS O1 O2 BX1 BP1 BS1 NM HH HW HL
  obtain ⟨Xb, hXb⟩ : ∃ k, k = w.heap.size := ⟨_, rfl⟩
  rw [← hXb] at BX BP BS ⊢
  clear hXb
  obtain ⟨i, hi⟩ : ∃ i, i = x.intra := ⟨_, rfl⟩
  obtain ⟨wh, hwh⟩ : ∃ i, i = x.whole := ⟨_, rfl⟩
  have I := hid hi.symm
  have x1 := (BX.out _ Q.out.only).cell (i := 1) (v := .bool i) (by rw [hi]; rfl)
  have x2 := (BX.out _ Q.out.only).cell (i := 2) (v := .bool wh) (by rw [hwh]; rfl)
  have KH : kindH x = (if i = true then 2 else 0) + (if wh = true then 5 else 0) := by rw [hi, hwh]; rfl
  clear hi hwh
  go_upto_if 27 with (fail)
  go_cut [14] from 27 to 27 (fun s14 wx => s14 = .int .i64 (if i = true then 2 else 0) ∧ W2 = wx)
  case first =>
    clear KH x2
    cases i
    all_goals
      go_wp2_with fail
      go_meet
      exact ⟨by simp, rfl⟩
  case rest =>
  obtain ⟨rfl, rfl⟩ := hcut
  clear x1
  obtain ⟨k1, hk1⟩ : ∃ k : Int, k = (if i = true then 2 else 0) := ⟨_, rfl⟩
  rw [← hk1]
  have k1b : 0 ≤ k1 ∧ k1 ≤ 2 := by rw [hk1]; split <;> omega
  have g1 : IntKind.i64.wrap (k1 + 5) = k1 + 5 := IntWalk.i64_in _ ⟨by omega, by omega⟩
  have K1 := hid hk1
  have KH1 := hid KH
  clear hk1 KH
  go_upto_if 29 with (fail)
  go_cut [14] from 29 to 31 (fun s14 wx => s14 = .int .i64 (k1 + (if wh = true then 5 else 0)) ∧ W2 = wx)
  case first =>
    clear k1b
    cases wh
    all_goals
      go_wp2_with fail
      go_meet
      exact ⟨by simp, rfl⟩
  case rest =>
  obtain ⟨rfl, rfl⟩ := hcut
  clear x2 g1
  obtain ⟨k2, hk2⟩ : ∃ k : Int, k = k1 + (if wh = true then 5 else 0) := ⟨_, rfl⟩
  rw [← hk2]
  have K2 := hid (show k2 = (kindH x : Nat) from by rw [hk2, KH1.out, K1.out]; cases i <;> cases wh <;> rfl)
  have k2b : 0 ≤ k2 ∧ k2 ≤ 7 := by rw [hk2]; split <;> omega
  have u1 : IntKind.u64.wrap k2 = k2 := IntWalk.u64_in _ ⟨by omega, by omega⟩
  have KB := hid k2b
  clear hk2 k1b k2b K1 KH1
  have cx := (BX.out _ Q.out.only).cell (i := 0) (v := .int .i64 x.fi) rfl
  have cv : IntKind.u64.wrap x.fi = x.fi := IntWalk.u64_in _ ⟨by have := BG.out.1.1; omega, by have := BG.out.2.1; omega⟩
  go_wp2_with fail
  refine (Q.out.ue (by omega) BG.out.1.1 (by have := BG.out.2.1; omega)).mono ?_
  rintro e w' ⟨⟨z, rfl⟩, hQ⟩
  have Q' := hid hQ
  clear hQ Q cx cv
  have Q := Q'
  clear Q'
  go_wp2_with fail
  refine (Q.out.ue (by omega) KB.out.1 (by have := KB.out.2; omega)).mono ?_
  rintro e w' ⟨⟨z, rfl⟩, hQ⟩
  have Q' := hid hQ
  clear hQ Q u1
  have Q := Q'
  clear Q'
  have cx := (BX.out _ Q.out.only).cell (i := 3) (v := .int .i64 x.pps) rfl
  have cv : IntKind.u64.wrap x.pps = x.pps := IntWalk.u64_in _ ⟨by have := BG.out.2.2.2.2.2.1; omega, by have := BG.out.2.2.2.2.2.2; omega⟩
  go_wp2_with fail
  refine (Q.out.ue (by omega) BG.out.2.2.2.2.2.1 (by have := BG.out.2.2.2.2.2.2; omega)).mono ?_
  rintro e w' ⟨⟨z, rfl⟩, hQ⟩
  have Q' := hid hQ
  clear hQ Q cx cv
  have Q := Q'
  clear Q'
  have Q' := hid (Q.out.up (M' := L ++ beginB x) (by unfold beginB; rw [K2.out, Int.toNat_natCast]; simp only [List.append_assoc]) (n' := 90300) (by omega))
  clear Q
  obtain ⟨M1, hM1⟩ : ∃ M, M = L ++ beginB x := ⟨_, rfl⟩
  rw [← hM1] at Q'
  have E1 := hid hM1
  have Q := Q'
  clear hM1 Q'
  have s4 := (BS.out _ Q.out.only).cell (i := 4) (v := .int .i64 un.s.fb) rfl
  have cx := (BX.out _ Q.out.only).cell (i := 4) (v := .int .i64 x.fr) rfl
  have cv : IntKind.u64.wrap x.fr = x.fr := IntWalk.u64_in _ ⟨by have := VV.out.fr.1; omega, by have := VV.out.fr2; omega⟩
  go_wp2_with fail
  refine (Q.out.u (by omega) UO.out.1.1 UO.out.1.2 VV.out.fr.1 VV.out.fr.2).mono ?_
  rintro e w' ⟨⟨z, rfl⟩, hQ⟩
  have Q' := hid hQ
  clear hQ Q cx cv s4
  have Q := Q'
  clear Q'
  have Q' := hid (Q.out.up (M' := M1 ++ stepB un x 0) rfl (n' := 90400) (by omega))
  clear Q
  obtain ⟨M2, hM2⟩ : ∃ M, M = M1 ++ stepB un x 0 := ⟨_, rfl⟩
  rw [← hM2] at Q'
  have E2 := hid hM2
  have Q := Q'
  clear hM2 Q'
  obtain ⟨idr, hidr⟩ : ∃ i, i = un.idr := ⟨_, rfl⟩
  rw [← hidr]
  have ID := hid hidr.symm
  clear hidr
  go_upto_if 53 with (fail)
  go_cut [] from 54 to 58 (fun wx => PS W2 wx b sv (M2 ++ stepB un x 1) 90500)
  case first =>
    cases idr
    · skip
      go_wp2_with fail
      go_meet
      exact Q.out.up (stepB_no (numB_no ID.out)) (by omega)
    · skip
      have cx := (BX.out _ Q.out.only).cell (i := 5) (v := .int .i64 x.idr) rfl
      have cv : IntKind.u64.wrap x.idr = x.idr := IntWalk.u64_in _ ⟨by have := (VV.out.idr ID.out).1; omega, by have := (VV.out.idr ID.out).2; omega⟩
      go_wp2_with fail
      refine (Q.out.ue (by omega) (VV.out.idr ID.out).1 (by have := (VV.out.idr ID.out).2; omega)).mono ?_
      rintro e w' ⟨⟨z, rfl⟩, hQ⟩
      have Q' := hid hQ
      clear hQ Q cx cv
      have Q := Q'
      clear Q'
      go_wp2_with fail
      go_meet
      exact Q.out.up (by rw [stepB, numB_ue ID.out]) (by omega)
  case rest =>
  obtain ⟨M3, hM3⟩ : ∃ M, M = M2 ++ stepB un x 1 := ⟨_, rfl⟩
  rw [← hM3] at hcut
  have E3 := hid hM3
  clear Q hM3
  have Q := hid hcut
  clear hcut
  have s5 := (BS.out _ Q.out.only).cell (i := 5) (v := .int .i64 un.s.pb) rfl
  have cx := (BX.out _ Q.out.only).cell (i := 6) (v := .int .i64 x.poc) rfl
  have cv : IntKind.u64.wrap x.poc = x.poc := IntWalk.u64_in _ ⟨by have := VV.out.poc.1; omega, by have := VV.out.poc2; omega⟩
  go_wp2_with fail
  refine (Q.out.u (by omega) UO.out.2.1.1 UO.out.2.1.2 VV.out.poc.1 VV.out.poc.2).mono ?_
  rintro e w' ⟨⟨z, rfl⟩, hQ⟩
  have Q' := hid hQ
  clear hQ Q cx cv s5
  have Q := Q'
  clear Q'
  have Q' := hid (Q.out.up (M' := M3 ++ stepB un x 2) rfl (n' := 90600) (by omega))
  clear Q
  obtain ⟨M4, hM4⟩ : ∃ M, M = M3 ++ stepB un x 2 := ⟨_, rfl⟩
  rw [← hM4] at Q'
  have E4 := hid hM4
  have Q := Q'
  clear hM4 Q'
  have x1 := (BX.out _ Q.out.only).cell (i := 1) (v := .bool i) (by rw [← I.out]; rfl)
  go_upto_if 68 with (fail)
  clear x1
  go_cut [] from 69 to 90 (fun wx => PS W2 wx b sv (M4 ++ (stepB un x 3 ++ (stepB un x 4 ++ (stepB un x 5 ++ stepB un x 6)))) 103900)
  case first =>
    cases i
    · skip
      obtain ⟨ov, hov⟩ : ∃ o, o = x.over := ⟨_, rfl⟩
      have OV := hid hov.symm
      have cx := (BX.out _ Q.out.only).cell (i := 7) (v := .bool ov) (by rw [hov]; rfl)
      clear hov
      go_wp2_with fail
      refine (Q.out.bit (by omega) ov).mono ?_
      rintro e w' ⟨⟨z, rfl⟩, hQ⟩
      have Q' := hid hQ
      clear hQ Q cx
      have Q := Q'
      clear Q'
      have cx := (BX.out _ Q.out.only).cell (i := 7) (v := .bool ov) (by rw [← OV.out]; rfl)
      go_upto_if 74 with (fail)
      clear cx
      go_cut [] from 75 to 80 (fun wx => PS W2 wx b sv ((M4 ++ [ov]) ++ stepB un x 4) 90800)
      case first =>
        cases ov
        · skip
          go_wp2_with fail
          go_meet
          exact Q.out.up (stepB_no (numB_no OV.out)) (by omega)
        · skip
          have cx := (BX.out _ Q.out.only).cell (i := 8) (v := .int .i64 x.refs) rfl
          have sw : IntKind.i64.wrap (x.refs - 1) = x.refs - 1 := IntWalk.i64_in _ ⟨by have := (VV.out.refs OV.out).1; omega, by have := (VV.out.refs OV.out).2; omega⟩
          have cv : IntKind.u64.wrap (x.refs - 1) = (x.refs - 1) := IntWalk.u64_in _ ⟨by have := (VV.out.refs OV.out).1; omega, by have := (VV.out.refs OV.out).2; omega⟩
          go_wp2_with fail
          refine (Q.out.ue (by omega) (by have := (VV.out.refs OV.out).1; omega) (by have := (VV.out.refs OV.out).2; omega)).mono ?_
          rintro e w' ⟨⟨z, rfl⟩, hQ⟩
          have Q' := hid hQ
          clear hQ Q cx cv sw
          have Q := Q'
          clear Q'
          go_wp2_with fail
          go_meet
          exact Q.out.up (by rw [stepB, numB, if_pos OV.out]; rfl) (by omega)
      case rest =>
      obtain ⟨N1, hN1⟩ : ∃ M, M = (M4 ++ [ov]) ++ stepB un x 4 := ⟨_, rfl⟩
      rw [← hN1] at hcut
      have F1 := hid hN1
      clear Q hN1
      have Q := hid hcut
      clear hcut
      obtain ⟨li, hli⟩ : ∃ o, o = x.listed := ⟨_, rfl⟩
      have LI := hid hli.symm
      have cx := (BX.out _ Q.out.only).cell (i := 9) (v := .bool li) (by rw [hli]; rfl)
      clear hli
      go_wp2_with fail
      refine (Q.out.bit (by omega) li).mono ?_
      rintro e w' ⟨⟨z, rfl⟩, hQ⟩
      have Q' := hid hQ
      clear hQ Q cx
      have Q := Q'
      clear Q'
      have cx := (BX.out _ Q.out.only).cell (i := 9) (v := .bool li) (by rw [← LI.out]; rfl)
      go_upto_if 86 with (fail)
      clear cx
      go_cut [] from 87 to 90 (fun wx => PS W2 wx b sv ((N1 ++ [li]) ++ stepB un x 6) 103900)
      case first =>
        cases li
        · skip
          go_wp2_with fail
          go_meet
          exact Q.out.up (stepB_no (lstB_no LI.out)) (by omega)
        · skip
          have cx := (BX.out _ Q.out.only).cell (i := 10) (v := .slice ma x.mods.length mc) rfl
          go_wp2_with fail
          refine (Q.out.list (by omega) false H1.out OA.out.1.1 OA.out.1.2 (VV.out.mods LI.out)).mono ?_
          rintro e w' ⟨⟨z, rfl⟩, hQ⟩
          have Q' := hid hQ
          clear hQ Q cx
          have Q := Q'
          clear Q'
          go_wp2_with fail
          go_meet
          exact Q.out.up (by rw [stepB, lstB_yes LI.out]) (by omega)
      case rest =>
      have Q' := hid hcut
      clear hcut Q
      go_wp2_with fail
      go_meet
      refine Q'.out.up ?_ (by omega)
      rw [F1.out, show stepB un x 3 = [ov] from (flagB_yes (by rw [I.out]; rfl)).trans (by rw [OV.out]), show stepB un x 5 = [li] from (flagB_yes (by rw [I.out]; rfl)).trans (by rw [LI.out])]
      simp only [List.append_assoc]
    · skip
      go_wp2_with fail
      go_meet
      exact Q.out.up (by rw [show stepB un x 3 = [] from flagB_no (by rw [I.out]; rfl), show stepB un x 4 = [] from numB_no (VV.out.over I.out), show stepB un x 5 = [] from flagB_no (by rw [I.out]; rfl), show stepB un x 6 = [] from lstB_no (VV.out.listed I.out)]; simp only [List.append_nil]) (by omega)
  case rest =>
  obtain ⟨M5, hM5⟩ : ∃ M, M = M4 ++ (stepB un x 3 ++ (stepB un x 4 ++ (stepB un x 5 ++ stepB un x 6))) := ⟨_, rfl⟩
  rw [← hM5] at hcut
  have E5 := hid hM5
  clear Q hM5
  have Q := hid hcut
  clear hcut
  go_upto_if 91 with (fail)
  go_cut [] from 92 to 113 (fun wx => PS W2 wx b sv (M5 ++ (stepB un x 7 ++ (stepB un x 8 ++ stepB un x 9))) 117200)
  case first =>
    cases idr
    · skip
      by_cases hr : un.ref = 0
      · have h1 : (un.ref != 0) = false := by simp [hr]
        have h2 : decide (un.ref = 0) = true := by simp [hr]
        have AD := hid (show adH un = false by unfold adH; rw [ID.out, hr]; rfl)
        clear hr
        go_wp2_with fail
        go_meet
        exact Q.out.up (by rw [show stepB un x 7 = [] from by rw [stepB, flagB_no ID.out, flagB_no ID.out]; rfl, show stepB un x 8 = [] from flagB_no AD.out, show stepB un x 9 = [] from lstB_no (VV.out.ad AD.out)]; simp only [List.append_nil]) (by omega)
      have h1 : (un.ref != 0) = true := by simp [hr]
      have h2 : decide (un.ref = 0) = false := by simp [hr]
      have AD := hid (show adH un = true by unfold adH; rw [ID.out]; have := R0.out; simp; omega)
      clear hr
      go_upto_region 29 with (fail)
      clear h1 h2
      obtain ⟨ad, had⟩ : ∃ o, o = x.ad := ⟨_, rfl⟩
      have AV := hid had.symm
      have cx := (BX.out _ Q.out.only).cell (i := 13) (v := .bool ad) (by rw [had]; rfl)
      clear had
      go_wp2_with fail
      refine (Q.out.bit (by omega) ad).mono ?_
      rintro e w' ⟨⟨z, rfl⟩, hQ⟩
      have Q' := hid hQ
      clear hQ Q cx
      have Q := Q'
      clear Q'
      have cx := (BX.out _ Q.out.only).cell (i := 13) (v := .bool ad) (by rw [← AV.out]; rfl)
      go_upto_if 109 with (fail)
      clear cx
      go_cut [] from 110 to 113 (fun wx => PS W2 wx b sv ((M5 ++ [ad]) ++ stepB un x 9) 117200)
      case first =>
        cases ad
        · skip
          go_wp2_with fail
          go_meet
          exact Q.out.up (stepB_no (lstB_no AV.out)) (by omega)
        · skip
          have cx := (BX.out _ Q.out.only).cell (i := 14) (v := .slice ka x.marks.length kc) rfl
          go_wp2_with fail
          refine (Q.out.list (by omega) true H2.out OA.out.2.1 OA.out.2.2 (VV.out.marks AV.out)).mono ?_
          rintro e w' ⟨⟨z, rfl⟩, hQ⟩
          have Q' := hid hQ
          clear hQ Q cx
          have Q := Q'
          clear Q'
          go_wp2_with fail
          go_meet
          exact Q.out.up (by rw [stepB, lstB_yes AV.out]) (by omega)
      case rest =>
      have Q' := hid hcut
      clear hcut Q
      go_wp2_with fail
      go_meet
      refine Q'.out.up ?_ (by omega)
      rw [show stepB un x 7 = [] from by rw [stepB, flagB_no ID.out, flagB_no ID.out]; rfl, show stepB un x 8 = [ad] from (flagB_yes AD.out).trans (by rw [AV.out])]
      simp only [List.append_assoc, List.nil_append]
    · skip
      have AD := hid (show adH un = false by unfold adH; rw [ID.out]; rfl)
      have cx := (BX.out _ Q.out.only).cell (i := 11) (v := .bool x.f0) rfl
      go_wp2_with fail
      refine (Q.out.bit (by omega) x.f0).mono ?_
      rintro e w' ⟨⟨z, rfl⟩, hQ⟩
      have Q' := hid hQ
      clear hQ Q cx
      have Q := Q'
      clear Q'
      have cx := (BX.out _ Q.out.only).cell (i := 12) (v := .bool x.f1) rfl
      go_wp2_with fail
      refine (Q.out.bit (by omega) x.f1).mono ?_
      rintro e w' ⟨⟨z, rfl⟩, hQ⟩
      have Q' := hid hQ
      clear hQ Q cx
      have Q := Q'
      clear Q'
      go_wp2_with fail
      go_meet
      exact Q.out.up (by rw [show stepB un x 7 = [x.f0] ++ [x.f1] from by rw [stepB, flagB_yes ID.out, flagB_yes ID.out], show stepB un x 8 = [] from flagB_no AD.out, show stepB un x 9 = [] from lstB_no (VV.out.ad AD.out)]; simp only [List.append_nil, List.append_assoc]) (by omega)
  case rest =>
  obtain ⟨M6, hM6⟩ : ∃ M, M = M5 ++ (stepB un x 7 ++ (stepB un x 8 ++ stepB un x 9)) := ⟨_, rfl⟩
  rw [← hM6] at hcut
  have E6 := hid hM6
  clear Q hM6
  have Q := hid hcut
  clear hcut
  obtain ⟨cab, hcab⟩ : ∃ k, k = un.p.cab := ⟨_, rfl⟩
  have CAB := hid hcab
  have p2 := (BP.out _ Q.out.only).cell (i := 2) (v := .bool cab) (by rw [hcab]; rfl)
  have x1 := (BX.out _ Q.out.only).cell (i := 1) (v := .bool i) (by rw [← I.out]; rfl)
  clear hcab
  go_upto_region 32 with (fail)
  go_cut [120] from 114 to 120 (fun s120 wx => s120 = .bool (cab && !i) ∧ PS W2 wx b sv M6 117200)
  case first =>
    cases cab
    all_goals
      go_wp2_with fail
      go_meet
      exact ⟨by simp, Q.out⟩
  case rest =>
  obtain ⟨rfl, Q0⟩ := hcut
  clear Q p2 x1
  have Q := hid Q0
  clear Q0
  obtain ⟨t, ht⟩ : ∃ t, t = (cab && !i) := ⟨_, rfl⟩
  rw [← ht]
  have T := hid (show iniH un x = t by unfold iniH; rw [I.out, ← CAB.out, ht]; exact Bool.and_comm _ _)
  clear ht
  go_upto_if 120 with (fail)
  go_cut [] from 121 to 125 (fun wx => PS W2 wx b sv (M6 ++ stepB un x 10) 117300)
  case first =>
    cases t
    · skip
      go_wp2_with fail
      go_meet
      exact Q.out.up (stepB_no (numB_no T.out)) (by omega)
    · skip
      have cx := (BX.out _ Q.out.only).cell (i := 15) (v := .int .i64 x.ini) rfl
      have cv : IntKind.u64.wrap x.ini = x.ini := IntWalk.u64_in _ ⟨by have := (VV.out.ini T.out).1; omega, by have := (VV.out.ini T.out).2; omega⟩
      go_wp2_with fail
      refine (Q.out.ue (by omega) (VV.out.ini T.out).1 (by have := (VV.out.ini T.out).2; omega)).mono ?_
      rintro e w' ⟨⟨z, rfl⟩, hQ⟩
      have Q' := hid hQ
      clear hQ Q cx cv
      have Q := Q'
      clear Q'
      go_wp2_with fail
      go_meet
      exact Q.out.up (by rw [stepB, numB_ue T.out]) (by omega)
  case rest =>
  obtain ⟨M7, hM7⟩ : ∃ M, M = M6 ++ stepB un x 10 := ⟨_, rfl⟩
  rw [← hM7] at hcut
  have E7 := hid hM7
  clear Q hM7
  have Q := hid hcut
  clear hcut
  have cx := (BX.out _ Q.out.only).cell (i := 16) (v := .int .i64 x.qp) rfl
  go_wp2_with fail
  refine (Q.out.se (by omega) VV.out.qp.1 VV.out.qp.2).mono ?_
  rintro e w' ⟨⟨z, rfl⟩, hQ⟩
  have Q' := hid hQ
  clear hQ Q cx
  have Q := Q'
  clear Q'
  have Q' := hid (Q.out.up (M' := M7 ++ stepB un x 11) rfl (n' := 117400) (by omega))
  clear Q
  obtain ⟨M8, hM8⟩ : ∃ M, M = M7 ++ stepB un x 11 := ⟨_, rfl⟩
  rw [← hM8] at Q'
  have E8 := hid hM8
  have Q := Q'
  clear hM8 Q'
  obtain ⟨db, hdb⟩ : ∃ k, k = un.p.db := ⟨_, rfl⟩
  have DB := hid hdb.symm
  have p8 := (BP.out _ Q.out.only).cell (i := 8) (v := .bool db) (by rw [hdb]; rfl)
  clear hdb
  go_upto_if 131 with (fail)
  clear p8
  go_cut [] from 132 to 147 (fun wx => PS W2 wx b sv (M8 ++ (stepB un x 12 ++ (stepB un x 13 ++ stepB un x 14))) 117700)
  case first =>
    cases db
    · skip
      go_wp2_with fail
      go_meet
      exact Q.out.up (by rw [show stepB un x 12 = [] from numB_no DB.out, show stepB un x 13 = [] from numB_no (by unfold fltH; rw [DB.out]; rfl), show stepB un x 14 = [] from numB_no (by unfold fltH; rw [DB.out]; rfl)]; simp only [List.append_nil]) (by omega)
    · skip
      obtain ⟨fl, hfl⟩ : ∃ k, k = x.fil := ⟨_, rfl⟩
      have FB := hid (VV.out.fil DB.out)
      have FL := hid hfl
      rw [← hfl] at FB
      have cx := (BX.out _ Q.out.only).cell (i := 17) (v := .int .i64 fl) (by rw [hfl]; rfl)
      clear hfl
      have cv : IntKind.u64.wrap fl = fl := IntWalk.u64_in _ ⟨by have := FB.out.1; omega, by have := FB.out.2; omega⟩
      go_wp2_with fail
      refine (Q.out.ue (by omega) FB.out.1 (by have := FB.out.2; omega)).mono ?_
      rintro e w' ⟨⟨z, rfl⟩, hQ⟩
      have Q' := hid hQ
      clear hQ Q cx cv
      have Q := Q'
      clear Q'
      have cx := (BX.out _ Q.out.only).cell (i := 17) (v := .int .i64 fl) (by rw [FL.out]; rfl)
      have S12 := hid (show stepB un x 12 = ueBits fl.toNat from by rw [stepB, numB_ue DB.out, FL.out])
      by_cases hf : fl = 1
      · have h1 : (fl != 1) = false := by simp [hf]
        have h2 : decide (fl = 1) = true := by simp [hf]
        have NF := hid (show fltH un x = false by unfold fltH; rw [DB.out, ← FL.out, hf]; rfl)
        clear hf
        go_wp2_with fail
        go_meet
        exact Q.out.up (by rw [S12.out, show stepB un x 13 = [] from numB_no NF.out, show stepB un x 14 = [] from numB_no NF.out]; simp only [List.append_nil]) (by omega)
      have h1 : (fl != 1) = true := by simp [hf]
      have h2 : decide (fl = 1) = false := by simp [hf]
      have NF := hid (show fltH un x = true by unfold fltH; rw [DB.out, ← FL.out]; simp [hf])
      clear hf
      go_upto_region 38 with (fail)
      clear h1 h2 cx
      have cx := (BX.out _ Q.out.only).cell (i := 18) (v := .int .i64 x.a) rfl
      go_wp2_with fail
      refine (Q.out.se (by omega) (by have := (VV.out.a NF.out).1; omega) (by have := (VV.out.a NF.out).2; omega)).mono ?_
      rintro e w' ⟨⟨z, rfl⟩, hQ⟩
      have Q' := hid hQ
      clear hQ Q cx
      have Q := Q'
      clear Q'
      have cx := (BX.out _ Q.out.only).cell (i := 19) (v := .int .i64 x.b) rfl
      go_wp2_with fail
      refine (Q.out.se (by omega) (by have := (VV.out.b NF.out).1; omega) (by have := (VV.out.b NF.out).2; omega)).mono ?_
      rintro e w' ⟨⟨z, rfl⟩, hQ⟩
      have Q' := hid hQ
      clear hQ Q cx
      have Q := Q'
      clear Q'
      go_wp2_with fail
      go_meet
      exact Q.out.up (by rw [S12.out, show stepB un x 13 = ueBits (seNum x.a) from numB_se NF.out, show stepB un x 14 = ueBits (seNum x.b) from numB_se NF.out]; simp only [List.append_assoc]) (by omega)
  case rest =>
  obtain ⟨M9, hM9⟩ : ∃ M, M = M8 ++ (stepB un x 12 ++ (stepB un x 13 ++ stepB un x 14)) := ⟨_, rfl⟩
  rw [← hM9] at hcut
  have E9 := hid hM9
  clear Q hM9
  have Q := hid hcut
  clear hcut
  go_wp2_with fail
  go_ret
  refine ⟨rfl, ?_⟩
  rw [show L ++ BB = M9 from by
    rw [BT.out, E9.out, E8.out, E7.out, E6.out, E5.out, E4.out, E3.out, E2.out, E1.out]
    simp only [List.append_assoc]]
  exact END.out _ _ _ Q.out
end Go.Proofs.YtjjjfmnhdnajkaaGreatDoor

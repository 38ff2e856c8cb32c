/- Two writers, the program's and the reference's, made behind a world. Ahead of it: The chapter's examples, which every law evaluates. -/
import Derived.Test.YtdkmeldcpamnnaaDoorMkV
namespace Go.Proofs.YtdkmeldcpamnnaaDoor
open Go.RowKit
set_option linter.unusedVariables false

instance (x : Int × Int × Int) : Decidable (OkM x) := by unfold OkM; infer_instance
theorem oks_dec (l : List (Int × Int × Int)) (h : l.all (fun x => decide (OkM x)) = true) : OksM l := fun j x hx => of_decide_eq_true (List.all_eq_true.1 h x (List.mem_of_getElem? hx))
theorem bytesof_lit (cs : ByteArray) (L : List Bool) (w : World) (h : chars L = cs) (hL : L.length ≤ 100000) (s : ByteArray) (hs : pack L = s) :
    Calls Tryd.prog 32 #[.string cs] w fun e w' => e = .returned (.string s) ∧ Only [] w w' := by
  subst h hs
  exact bytesof_any L w hL
theorem bitsof_lit (m : Bool) (a : Value) (l : List (Int × Int × Int)) (w : World) (hV : Vars w) (ha : HoldsM w a l) (hk : l.all (fun x => decide (OkM x)) = true) (s : ByteArray) (h : chars (bitsI m l) = s) :
    Calls Tryd.prog 31 #[.bool m, a] w fun e w' => e = .returned (.string s) ∧ Only [] w w' := by
  subst h
  exact bitsof_any m a l w hV ha (oks_dec l hk)
theorem mods_lit (b : Nat) (s : ByteArray) (pos : Nat) (w : World) (hV : Vars w) (h : Rd w b s pos) (hz : s.size ≤ 100000) (e : Int) (he : (readI false s pos).2.1 = e) (he2 : (readI false s pos).2.2 = pos) :
    Calls Tryd.prog 26 #[.pointer (some ⟨b, 0, none⟩)] w fun r w' => ∃ sv, r = .returned (.tuple #[sv, .int .i64 e]) ∧ Rd w' b s pos ∧ Only [b] w w' := by
  subst he
  exact (mods_any b s pos w hV h hz).mono fun r w' ⟨sv, h1, _, h3, h4, _⟩ => ⟨sv, h1, he2 ▸ h3, h4⟩
theorem checkmods_lit (a : Value) (l : List (Int × Int × Int)) (w : World) (hV : Vars w) (ha : HoldsM w a l) (hk : l.all (fun x => decide (OkM x)) = true) (e : Int) (he : checkI false l = e) :
    Calls Tryd.prog 37 #[a] w fun r w' => r = .returned (.int .i64 e) ∧ Only [] w w' := by
  subst he
  exact checkmods_any a l w hV ha (oks_dec l hk)
theorem checkmarks_lit (a : Value) (l : List (Int × Int × Int)) (w : World) (hV : Vars w) (ha : HoldsM w a l) (hk : l.all (fun x => decide (OkM x)) = true) (e : Int) (he : checkI true l = e) :
    Calls Tryd.prog 36 #[a] w fun r w' => r = .returned (.int .i64 e) ∧ Only [] w w' := by
  subst he
  exact checkmarks_any a l w hV ha (oks_dec l hk)

set_option maxRecDepth 100000 in
set_option maxHeartbeats 4000000 in
theorem awake_any (w : World) (hV : Vars w) : Calls Tryd.prog 21 #[] w fun e w' => e = .returned (.bool true) ∧ Only [] w w' := by
  have HV := hid hV
  clear hV
  go_enter Tryd.func21, Tryd.ntmps21
  go_wp2_with fail
  refine (bytesof_lit _ [false, false, true, false, true] w rfl (by decide) ⟨#[40]⟩ (by decide +kernel)).mono ?_
  rintro e w1 ⟨rfl, hO1⟩
  have O1 := hid hO1
  clear hO1
  go_wp2_with fail
  refine (read_any _ w1 (by decide)).mono ?_
  rintro e w2 ⟨rfl, hR2, hO2⟩
  have R2 := hid hR2
  have O2 := hid (O1.out.trans hO2)
  have L1 := hid (O1.out.size)
  clear hR2 hO2 O1
  go_wp2_with fail
  refine (mods_lit _ _ _ w2 (HV.out.only0 O2.out) R2.out (by decide) 9 (by decide +kernel) (by decide +kernel)).mono ?_
  rintro e w3 ⟨sv, rfl, hR3, hO3⟩
  have O3 := hid (O2.out.trans2 hO3 (fun x hx => .inr (by rw [List.mem_singleton.1 hx]; exact L1.out)))
  clear hR3 hO3 O2 R2 L1
  go_wp2_with fail
  refine (bytesof_lit _ [false, false, false, false, false, false, true, true] w3 rfl (by decide) ⟨#[3]⟩ (by decide +kernel)).mono ?_
  rintro e w4 ⟨rfl, hO4⟩
  have O4 := hid (O3.out.trans hO4)
  clear hO4 O3
  go_wp2_with fail
  refine (read_any _ w4 (by decide)).mono ?_
  rintro e w5 ⟨rfl, hR5, hO5⟩
  obtain ⟨r, hr⟩ : ∃ r, r = w4.heap.size := ⟨_, rfl⟩
  rw [← hr] at hR5 ⊢
  have R5 := hid hR5
  have O5 := hid (O4.out.trans hO5)
  have L4 := hid (show w.heap.size ≤ r by rw [hr]; exact O4.out.size)
  clear hR5 hO5 O4 hr
  go_wp2_with fail
  refine (u_int r _ 0 5 5 rfl w5 R5.out (by decide) (by decide)).mono ?_
  rintro e w6 ⟨rfl, hR6, hO6⟩
  have R6 := hid hR6
  have O6 := hid (O5.out.trans2 hO6 (fun x hx => .inr (by rw [List.mem_singleton.1 hx]; exact L4.out)))
  clear hR6 hO6 O5 R5
  go_wp2_with fail
  refine (mods_lit _ _ _ w6 (HV.out.only0 O6.out) R6.out (by decide) 5 (by decide +kernel) (by decide +kernel)).mono ?_
  rintro e w7 ⟨sv2, rfl, hR7, hO7⟩
  have R7 := hid hR7
  have O7 := hid (O6.out.trans2 hO7 (fun x hx => .inr (by rw [List.mem_singleton.1 hx]; exact L4.out)))
  clear hR7 hO7 O6 R6
  go_wp2_with fail
  refine (bitsof_lit false _ [] w7 (HV.out.only0 O7.out) (holdsM_none w7) (by decide) ⟨#[48, 48, 49, 48, 48]⟩ (by decide +kernel)).mono ?_
  rintro e w8 ⟨rfl, hO8⟩
  have O8 := hid (O7.out.trans hO8)
  have R8 := hid (R7.out.only hO8 (by simp))
  clear hO8 O7 R7
  go_wp2_with fail
  refine (bitsof_lit true _ [] w8 (HV.out.only0 O8.out) (holdsM_none w8) (by decide) ⟨#[49]⟩ (by decide +kernel)).mono ?_
  rintro e w9 ⟨rfl, hO9⟩
  have O9 := hid (O8.out.trans hO9)
  have R9 := hid (R8.out.only hO9 (by simp))
  clear hO9 O8 R8
  go_wp2_with fail
  refine (bitsof_lit false _ [(0, 5, 0), (2, 0, 0)] _ (HV.out.only0 (O9.out.alloc _)) (holdsM_lit w9 [(0, 5, 0), (2, 0, 0)] (by decide)) (by decide) ⟨#[49, 48, 48, 49, 49, 48, 48, 49, 49, 49, 48, 48, 49, 48, 48]⟩ (by decide +kernel)).mono ?_
  rintro e w10 ⟨rfl, hO10⟩
  have O10 := hid ((O9.out.alloc _).trans hO10)
  have R10 := hid ((R9.out.only ((Only.refl [] w9).alloc _) (by simp)).only hO10 (by simp))
  clear hO10 O9 R9
  go_wp2_with fail
  refine (bitsof_lit true _ [(3, 1, 0), (5, 0, 0)] _ (HV.out.only0 (O10.out.alloc _)) (holdsM_lit w10 [(3, 1, 0), (5, 0, 0)] (by decide)) (by decide) ⟨#[48, 48, 49, 48, 48, 48, 49, 48, 49, 48, 48, 49, 49, 48, 49]⟩ (by decide +kernel)).mono ?_
  rintro e w11 ⟨rfl, hO11⟩
  have O11 := hid ((O10.out.alloc _).trans hO11)
  have R11 := hid ((R10.out.only ((Only.refl [] w10).alloc _) (by simp)).only hO11 (by simp))
  clear hO11 O10 R10
  go_wp2_with fail
  refine (checkmods_lit _ [(3, 0, 0)] _ (HV.out.only0 (O11.out.alloc _)) (holdsM_lit w11 [(3, 0, 0)] (by decide)) (by decide) 9 (by decide +kernel)).mono ?_
  rintro e w12 ⟨rfl, hO12⟩
  have O12 := hid ((O11.out.alloc _).trans hO12)
  have R12 := hid ((R11.out.only ((Only.refl [] w11).alloc _) (by simp)).only hO12 (by simp))
  clear hO12 O11 R11
  go_wp2_with fail
  refine (checkmods_lit _ [(0, 0, 1)] _ (HV.out.only0 (O12.out.alloc _)) (holdsM_lit w12 [(0, 0, 1)] (by decide)) (by decide) 2 (by decide +kernel)).mono ?_
  rintro e w13 ⟨rfl, hO13⟩
  have O13 := hid ((O12.out.alloc _).trans hO13)
  have R13 := hid ((R12.out.only ((Only.refl [] w12).alloc _) (by simp)).only hO13 (by simp))
  clear hO13 O12 R12
  go_wp2_with fail
  refine (checkmods_lit _ [(1, -1, 0)] _ (HV.out.only0 (O13.out.alloc _)) (holdsM_lit w13 [(1, -1, 0)] (by decide)) (by decide) 3 (by decide +kernel)).mono ?_
  rintro e w14 ⟨rfl, hO14⟩
  have O14 := hid ((O13.out.alloc _).trans hO14)
  have R14 := hid ((R13.out.only ((Only.refl [] w13).alloc _) (by simp)).only hO14 (by simp))
  clear hO14 O13 R13
  go_wp2_with fail
  refine (checkmarks_lit _ [(0, 0, 0)] _ (HV.out.only0 (O14.out.alloc _)) (holdsM_lit w14 [(0, 0, 0)] (by decide)) (by decide) 9 (by decide +kernel)).mono ?_
  rintro e w15 ⟨rfl, hO15⟩
  have O15 := hid ((O14.out.alloc _).trans hO15)
  have R15 := hid ((R14.out.only ((Only.refl [] w14).alloc _) (by simp)).only hO15 (by simp))
  clear hO15 O14 R14
  go_wp2_with fail
  refine (checkmarks_lit _ [(5, 1, 0)] _ (HV.out.only0 (O15.out.alloc _)) (holdsM_lit w15 [(5, 1, 0)] (by decide)) (by decide) 2 (by decide +kernel)).mono ?_
  rintro e w16 ⟨rfl, hO16⟩
  have O16 := hid ((O15.out.alloc _).trans hO16)
  have R16 := hid ((R15.out.only ((Only.refl [] w15).alloc _) (by simp)).only hO16 (by simp))
  clear hO16 O15 R15
  go_wp2_with fail
  refine (pos_any r _ _ w16 R16.out).mono ?_
  rintro e w17 ⟨rfl, rfl⟩
  go_wp2_with fail
  go_ret
  exact ⟨rfl, O16.out⟩
end Go.Proofs.YtdkmeldcpamnnaaDoor
namespace Go.Proofs.YtdkmeldcpamnnaaDoor
open Go.RowKit
set_option linter.unusedVariables false

structure Two (W : World) (c d : Nat) (l l' : List Bool) (sv tv : Value) (w : World) : Prop where
  wr : Wr w c sv l
  ref : RWr w d tv l'
  fs : ∀ g, g ∈ ownOf sv → W.heap.size ≤ g ∧ g ≠ d
  ft : ∀ g, g ∈ ownOf tv → W.heap.size ≤ g ∧ g ≠ c
  ap : ∀ g, g ∈ ownOf sv → g ∉ ownOf tv
  cW : W.heap.size ≤ c
  dW : W.heap.size ≤ d
  ne : c ≠ d
  only : Only [] W w
theorem Two.keep {W : World} {c d : Nat} {l l' : List Bool} {sv tv : Value} {w w' : World} (h : Two W c d l l' sv tv w) (k : Only [] w w') : Two W c d l l' sv tv w' :=
  ⟨h.wr.only k (by simp) (by simp), h.ref.only k (by simp) (by simp), h.fs, h.ft, h.ap, h.cW, h.dW, h.ne, h.only.trans k⟩
theorem Two.putW {W : World} {c d : Nat} {l l' m : List Bool} {sv tv sv' : Value} {w w' : World} (h : Two W c d l l' sv tv w) (hP : PutLeft w w' c sv sv' m) : Two W c d m l' sv' tv w' := by
  have hs := h.only.size
  have dl := h.ref.lt
  refine ⟨hP.wr, h.ref.only hP.only (fun e => ?_) (fun g hg e => ?_), fun g hg => ?_, h.ft, fun g hg e => ?_, h.cW, h.dW, h.ne, h.only.trans2 hP.only (fun x hx => ?_)⟩
  · rcases List.mem_cons.1 e with e | e
    · exact h.ne e.symm
    · exact (h.fs _ e).2 rfl
  · rcases List.mem_cons.1 e with e | e
    · exact (h.ft g hg).2 e
    · exact h.ap g e hg
  · rcases hP.own g hg with e | e
    · exact h.fs g e
    · exact ⟨by omega, by omega⟩
  · rcases hP.own g hg with x | x
    · exact h.ap g x e
    · have := h.ref.row.lt g e; omega
  · rcases List.mem_cons.1 hx with e | e
    · exact .inr (by rw [e]; exact h.cW)
    · exact .inr (h.fs x e).1
theorem Two.putR {W : World} {c d : Nat} {l l' m : List Bool} {sv tv tv' : Value} {w w' : World} (h : Two W c d l l' sv tv w) (hP : RPut w w' d tv tv' m) : Two W c d l m sv tv' w' := by
  have hs := h.only.size
  have cl := h.wr.lt
  refine ⟨h.wr.only hP.only (fun e => ?_) (fun g hg e => ?_), hP.wr, h.fs, fun g hg => ?_, fun g hg e => ?_, h.cW, h.dW, h.ne, h.only.trans2 hP.only (fun x hx => ?_)⟩
  · rcases List.mem_cons.1 e with e | e
    · exact h.ne e
    · exact (h.ft _ e).2 rfl
  · rcases List.mem_cons.1 e with e | e
    · exact (h.fs g hg).2 e
    · exact h.ap g hg e
  · rcases hP.own g hg with e | e
    · exact h.ft g e
    · exact ⟨by omega, by omega⟩
  · rcases hP.own g e with x | x
    · exact h.ap g hg x
    · have := h.wr.row.lt g hg; omega
  · rcases List.mem_cons.1 hx with e | e
    · exact .inr (by rw [e]; exact h.dW)
    · exact .inr (h.ft x e).1
theorem Two.asideW {W : World} {c d : Nat} {l l' : List Bool} {sv tv : Value} {w : World} (h : Two W c d l l' sv tv w) {a : Value} {x : List (Int × Int × Int)} (ha : HoldsM W a x) : Aside a x c sv := aside_fresh ha h.cW fun g hg => (h.fs g hg).1
theorem Two.asideR {W : World} {c d : Nat} {l l' : List Bool} {sv tv : Value} {w : World} (h : Two W c d l l' sv tv w) {a : Value} {x : List (Int × Int × Int)} (ha : HoldsM W a x) : Aside a x d tv := aside_fresh ha h.dW fun g hg => (h.ft g hg).1
theorem ones_more (k : Nat) : List.replicate k true ++ bitsOf 1 1 = List.replicate (k + 1) true := by
  rw [List.replicate_succ']; rfl
theorem put_one (b : Nat) (sv : Value) (k : Nat) (w : World) (h : Wr w b sv (List.replicate k true)) (hk : k ≤ 100) :
    Calls Tryd.prog 12 #[.pointer (some ⟨b, 0, none⟩), .int .i64 1, .int .u64 1] w fun e w' => e = .returned (.int .i64 0) ∧ ∃ sv', PutLeft w w' b sv sv' (List.replicate (k + 1) true) := by
  have := put_any b sv _ 1 1 w h (by simp; omega)
  rw [show wrP (List.replicate k true) 1 1 = (0, List.replicate (k + 1) true) from by unfold wrP; rw [if_neg (by decide), if_neg (by decide)]; exact congrArg _ (ones_more k)] at this
  exact this
theorem rput_one (b : Nat) (sv : Value) (k : Nat) (w : World) (h : RWr w b sv (List.replicate k true)) (hk : k ≤ 100) :
    Calls Tryd.prog 13 #[.pointer (some ⟨b, 0, none⟩), .int .i64 1, .int .u64 1] w fun e w' => e = .returned (.int .i64 0) ∧ ∃ sv', RPut w w' b sv sv' (List.replicate (k + 1) true) := by
  have := rput_any b sv _ 1 1 w h (by simp; omega) (by decide)
  rw [show wrP (List.replicate k true) 1 1 = (0, List.replicate (k + 1) true) from by unfold wrP; rw [if_neg (by decide), if_neg (by decide)]; exact congrArg _ (ones_more k)] at this
  exact this
end Go.Proofs.YtdkmeldcpamnnaaDoor

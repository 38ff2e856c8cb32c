/- The laws' own valid: valid commands out of any. Ahead of it: The laws' own bytesOf: characters 0 and 1 as bytes. -/
/- Two writers, the program's and the reference's, made behind a world. Ahead of it: The chapter's examples, which every law evaluates. -/
import Derived.Test.YtjjjfmnhdnajkaaGreatDoorMg14
import Derived.Laws.Bits128
section
set_option maxRecDepth 20000
namespace Go.Proofs.YtjjjfmnhdnajkaaGreatDoor
open Go.RowKit
set_option linter.unusedVariables false

theorem char_val (L : List Bool) (i : Nat) (h : i < (chars L).size) : ((chars L)[i]'h).toNat = 48 + (bitL L i).toNat := by
  have h' : i < L.length := by simpa using h
  have e : (chars L)[i]'h = if bitL L i then 49 else 48 := by
    show ((chars L).data)[i] = _
    simp [chars, bitL, List.getD_eq_getElem?_getD, h']
  rw [e]
  cases bitL L i <;> rfl
theorem bitL_take (L : List Bool) (n i : Nat) : bitL (L.take n) i = (decide (i < n) && bitL L i) := by
  unfold bitL
  rw [List.getD_eq_getElem?_getD, List.getD_eq_getElem?_getD, List.getElem?_take]
  by_cases h : i < n <;> simp [h]
theorem byteL_zero (L : List Bool) (j : Nat) : byteL (L.take 0) j = 0 := by
  have := eq_valF 0 (bitL (L.take 0)) (8 * j) 8 (by decide) (fun t ht => by rw [bitL_take]; simp)
  exact this.symm
theorem byteL_same (L : List Bool) (i j : Nat) (h : j ≠ i / 8) : byteL (L.take (i + 1)) j = byteL (L.take i) j := by
  refine valF_congr fun t ht => ?_
  rw [bitL_take, bitL_take]
  have : decide (8 * j + t < i + 1) = decide (8 * j + t < i) := by rw [decide_eq_decide]; omega
  rw [this]
theorem byteL_step (L : List Bool) (i : Nat) : byteL (L.take (i + 1)) (i / 8) = byteL (L.take i) (i / 8) ||| ((bitL L i).toNat * 2 ^ (7 - i % 8)) := by
  refine (eq_valF _ _ _ _ ?_ (fun t ht => ?_)).symm
  · refine Nat.or_lt_two_pow (byteL_lt _ _) ?_
    have : 2 ^ (7 - i % 8) ≤ 2 ^ 7 := Nat.pow_le_pow_right (by omega) (by omega)
    have p7 : (2 : Nat) ^ 7 = 128 := by decide
    have p8 : (2 : Nat) ^ 8 = 256 := by decide
    cases bitL L i <;> simp <;> omega
  · rw [Nat.testBit_or, show byteL (L.take i) (i / 8) = valF (bitL (L.take i)) (8 * (i / 8)) 8 from rfl, valF_bit _ _ _ _ ht, bitL_take, bitL_take]
    by_cases e : t = i % 8
    · have e1 : 8 * (i / 8) + t = i := by omega
      rw [e1, show 8 - 1 - t = 7 - i % 8 by omega]
      simp only [Nat.lt_irrefl, decide_false, Bool.false_and, Bool.false_or, Nat.lt_succ_self, decide_true, Bool.true_and]
      cases bitL L i <;> simp [Nat.testBit_two_pow_self]
    · have : decide (8 * (i / 8) + t < i + 1) = decide (8 * (i / 8) + t < i) := by rw [decide_eq_decide]; omega
      rw [this]
      have z : ((bitL L i).toNat * 2 ^ (7 - i % 8)).testBit (8 - 1 - t) = false := by
        cases bitL L i
        · simp
        · simp only [Bool.toNat_true, Nat.one_mul]
          rw [Nat.testBit_two_pow]
          rw [decide_eq_false_iff_not]
          omega
      rw [z, Bool.or_false]
theorem pack_cells (L : List Bool) : pack L = ⟨((List.range ((L.length + 7) / 8)).map fun i => UInt8.ofNat (byteL L i)).toArray⟩ := rfl

end Go.Proofs.YtjjjfmnhdnajkaaGreatDoor
namespace Go.Proofs.YtjjjfmnhdnajkaaGreatDoor
open Go.RowKit
set_option linter.unusedVariables false

theorem i64_mask (n : Int) (k : Nat) (hk : k ≤ 62) : bits .and .i64 n ((2 ^ k - 1 : Nat) : Int) = n % ((2 ^ k : Nat) : Int) := by
  have pk : 2 ^ k ≤ 2 ^ 62 := Nat.pow_le_pow_right (by omega) hk
  have p62 : (2 : Nat) ^ 62 = 4611686018427387904 := by decide
  have p64 : (2 : Nat) ^ 64 = 18446744073709551616 := by decide
  have p0 : 0 < 2 ^ k := Nat.pow_pos (by omega)
  have hm : (BitVec.ofInt 64 ((2 ^ k - 1 : Nat) : Int)).toNat = 2 ^ k - 1 := by
    rw [BitVec.toNat_ofInt, ← Int.natCast_emod, Int.toNat_natCast, p64]
    exact Nat.mod_eq_of_lt (by omega)
  have hd : (2 : Nat) ^ k ∣ 2 ^ 64 := Nat.pow_dvd_pow 2 (by omega)
  have key : (BitVec.ofInt 64 n &&& BitVec.ofInt 64 ((2 ^ k - 1 : Nat) : Int)).toNat = (n % ((2 ^ 64 : Nat) : Int)).toNat % 2 ^ k := by
    rw [BitVec.toNat_and, BitVec.toNat_ofInt, hm, Nat.and_two_pow_sub_one_eq_mod]
  show IntKind.i64.wrap ((BitVec.ofInt 64 n &&& BitVec.ofInt 64 ((2 ^ k - 1 : Nat) : Int)).toNat : Nat) = n % ((2 ^ k : Nat) : Int)
  rw [key, IntKind.wrap_i64]
  have h1 : (((n % ((2 ^ 64 : Nat) : Int)).toNat : Nat) : Int) = n % ((2 ^ 64 : Nat) : Int) := Int.toNat_of_nonneg (Int.emod_nonneg _ (by omega))
  have h2 : (((n % ((2 ^ 64 : Nat) : Int)).toNat % 2 ^ k : Nat) : Int) = n % ((2 ^ k : Nat) : Int) := by
    rw [Int.natCast_emod, h1]
    exact Int.emod_emod_of_dvd n (Int.natCast_dvd_natCast.2 hd)
  rw [h2]
  have h3 := Int.emod_nonneg n (show ((2 ^ k : Nat) : Int) ≠ 0 by omega)
  have h4 := Int.emod_lt_of_pos n (show (0 : Int) < ((2 ^ k : Nat) : Int) by omega)
  generalize n % ((2 ^ k : Nat) : Int) = r at *
  omega
theorem i64_and31 (n : Int) : bits .and .i64 n 2147483647 = n % 2147483648 := i64_mask n 31 (by decide)
/-- A valid command out of any. -/
def validM (m : Bool) (x : Int × Int × Int) : Int × Int × Int :=
  if m = true then (1 + x.1 % 6, if 1 + x.1 % 6 = 5 then 0 else x.2.1 % 2147483648, if 1 + x.1 % 6 = 3 then x.2.2 % 2147483648 else 0)
  else (x.1 % 3, x.2.1 % 2147483648, 0)
def validL (m : Bool) (l : List (Int × Int × Int)) : List (Int × Int × Int) := (l.take 66).map (validM m)
theorem validM_err (m : Bool) (x : Int × Int × Int) : errI m (validM m x) = 0 := by
  unfold validM
  cases m
  · refine errI_of ?_ ?_ ?_ ?_ ?_ ?_ ?_ <;> simp [hasI] <;> omega
  · simp only [if_true]
    have h : x.1 % 6 = 0 ∨ x.1 % 6 = 1 ∨ x.1 % 6 = 2 ∨ x.1 % 6 = 3 ∨ x.1 % 6 = 4 ∨ x.1 % 6 = 5 := by omega
    rcases h with h | h | h | h | h | h <;> rw [h] <;> refine errI_of ?_ ?_ ?_ ?_ ?_ ?_ ?_ <;> simp [hasI] <;> omega
theorem validM_ok (m : Bool) (x : Int × Int × Int) : OkM (validM m x) := by
  unfold validM OkM
  cases m
  · simp only [Bool.false_eq_true, if_false]; omega
  · simp only [if_true]
    refine ⟨by omega, ?_, ?_⟩
    · split <;> omega
    · split <;> omega
theorem firstE_of {m : Bool} {l : List (Int × Int × Int)} (h : ∀ (j : Nat) x, l[j]? = some x → errI m x = 0) : firstE m l = 0 := by
  induction l with
  | nil => rfl
  | cons y l ih => rw [firstE, if_neg (fun z => z (h 0 y (by simp)))]; exact ih (fun j x hx => h (j + 1) x (by simpa using hx))
theorem validL_at {m : Bool} {l : List (Int × Int × Int)} {j : Nat} {x : Int × Int × Int} (h : (validL m l)[j]? = some x) : errI m x = 0 ∧ OkM x := by
  unfold validL at h
  rw [List.getElem?_map] at h
  obtain ⟨y, _, rfl⟩ := Option.map_eq_some_iff.1 h
  exact ⟨validM_err m y, validM_ok m y⟩
theorem validL_len (m : Bool) (l : List (Int × Int × Int)) : (validL m l).length ≤ 66 := by unfold validL; rw [List.length_map, List.length_take]; omega
theorem validL_check (m : Bool) (l : List (Int × Int × Int)) : checkI m (validL m l) = 0 := by
  unfold checkI
  rw [if_neg (by have := validL_len m l; omega)]
  exact firstE_of fun j x hx => (validL_at hx).1
theorem validL_oks (m : Bool) (l : List (Int × Int × Int)) : OksM (validL m l) := fun j x hx => (validL_at hx).2

end Go.Proofs.YtjjjfmnhdnajkaaGreatDoor

end
section
set_option maxRecDepth 20000
namespace Go.Proofs.YtjjjfmnhdnajkaaGreatDoor
open Go.RowKit
set_option linter.unusedVariables false

instance (x : Int × Int × Int) : Decidable (OkM x) := by unfold OkM; infer_instance
theorem oks_dec (l : List (Int × Int × Int)) (h : l.all (fun x => decide (OkM x)) = true) : OksM l := fun j x hx => of_decide_eq_true (List.all_eq_true.1 h x (List.mem_of_getElem? hx))
theorem mods_lit (b : Nat) (s : ByteArray) (pos : Nat) (w : World) (hV : Vars w) (h : Rd w b s pos) (hz : s.size ≤ 100000) (e : Int) (he : (readI false s pos).2.1 = e) (he2 : (readI false s pos).2.2 = pos) :
    Calls Tryz.prog 136 #[.pointer (some ⟨b, 0, none⟩)] w fun r w' => ∃ sv, r = .returned (.tuple #[sv, .int .i64 e]) ∧ Rd w' b s pos ∧ Only [b] w w' := by
  subst he
  exact (mods_any b s pos w hV h hz).mono fun r w' ⟨sv, h1, _, h3, h4, _⟩ => ⟨sv, h1, he2 ▸ h3, h4⟩
theorem checkmods_lit (a : Value) (l : List (Int × Int × Int)) (w : World) (hV : Vars w) (ha : HoldsM w a l) (hk : l.all (fun x => decide (OkM x)) = true) (e : Int) (he : checkI false l = e) :
    Calls Tryz.prog 135 #[a] w fun r w' => r = .returned (.int .i64 e) ∧ Only [] w w' := by
  subst he
  exact checkmods_any a l w hV ha (oks_dec l hk)
theorem checkmarks_lit (a : Value) (l : List (Int × Int × Int)) (w : World) (hV : Vars w) (ha : HoldsM w a l) (hk : l.all (fun x => decide (OkM x)) = true) (e : Int) (he : checkI true l = e) :
    Calls Tryz.prog 138 #[a] w fun r w' => r = .returned (.int .i64 e) ∧ Only [] w w' := by
  subst he
  exact checkmarks_any a l w hV ha (oks_dec l hk)

end Go.Proofs.YtjjjfmnhdnajkaaGreatDoor
namespace Go.Proofs.YtjjjfmnhdnajkaaGreatDoor
open Go.RowKit
set_option linter.unusedVariables false

structure Two (W : World) (c d : Nat) (l l' : List Bool) (sv tv : Value) (w : World) : Prop where
  wr : Wr w c sv l
  ref : RWr w d tv l'
  fs : ∀ g, g ∈ ownOf sv → W.heap.size ≤ g ∧ g ≠ d
  ft : ∀ g, g ∈ ownOf tv → W.heap.size ≤ g ∧ g ≠ c
  ap : ∀ g, g ∈ ownOf sv → g ∉ ownOf tv
  cW : W.heap.size ≤ c
  dW : W.heap.size ≤ d
  ne : c ≠ d
  only : Only [] W w
theorem Two.keep {W : World} {c d : Nat} {l l' : List Bool} {sv tv : Value} {w w' : World} (h : Two W c d l l' sv tv w) (k : Only [] w w') : Two W c d l l' sv tv w' :=
  ⟨h.wr.only k (by simp) (by simp), h.ref.only k (by simp) (by simp), h.fs, h.ft, h.ap, h.cW, h.dW, h.ne, h.only.trans k⟩
theorem Two.putW {W : World} {c d : Nat} {l l' m : List Bool} {sv tv sv' : Value} {w w' : World} (h : Two W c d l l' sv tv w) (hP : PutLeft w w' c sv sv' m) : Two W c d m l' sv' tv w' := by
  have hs := h.only.size
  have dl := h.ref.lt
  refine ⟨hP.wr, h.ref.only hP.only (fun e => ?_) (fun g hg e => ?_), fun g hg => ?_, h.ft, fun g hg e => ?_, h.cW, h.dW, h.ne, h.only.trans2 hP.only (fun x hx => ?_)⟩
  · rcases List.mem_cons.1 e with e | e
    · exact h.ne e.symm
    · exact (h.fs _ e).2 rfl
  · rcases List.mem_cons.1 e with e | e
    · exact (h.ft g hg).2 e
    · exact h.ap g e hg
  · rcases hP.own g hg with e | e
    · exact h.fs g e
    · exact ⟨by omega, by omega⟩
  · rcases hP.own g hg with x | x
    · exact h.ap g x e
    · have := h.ref.row.lt g e; omega
  · rcases List.mem_cons.1 hx with e | e
    · exact .inr (by rw [e]; exact h.cW)
    · exact .inr (h.fs x e).1
theorem Two.putR {W : World} {c d : Nat} {l l' m : List Bool} {sv tv tv' : Value} {w w' : World} (h : Two W c d l l' sv tv w) (hP : RPut w w' d tv tv' m) : Two W c d l m sv tv' w' := by
  have hs := h.only.size
  have cl := h.wr.lt
  refine ⟨h.wr.only hP.only (fun e => ?_) (fun g hg e => ?_), hP.wr, h.fs, fun g hg => ?_, fun g hg e => ?_, h.cW, h.dW, h.ne, h.only.trans2 hP.only (fun x hx => ?_)⟩
  · rcases List.mem_cons.1 e with e | e
    · exact h.ne e
    · exact (h.ft _ e).2 rfl
  · rcases List.mem_cons.1 e with e | e
    · exact (h.fs g hg).2 e
    · exact h.ap g hg e
  · rcases hP.own g hg with e | e
    · exact h.ft g e
    · exact ⟨by omega, by omega⟩
  · rcases hP.own g e with x | x
    · exact h.ap g hg x
    · have := h.wr.row.lt g hg; omega
  · rcases List.mem_cons.1 hx with e | e
    · exact .inr (by rw [e]; exact h.dW)
    · exact .inr (h.ft x e).1
theorem Two.asideW {W : World} {c d : Nat} {l l' : List Bool} {sv tv : Value} {w : World} (h : Two W c d l l' sv tv w) {a : Value} {x : List (Int × Int × Int)} (ha : HoldsM W a x) : Aside a x c sv := aside_fresh ha h.cW fun g hg => (h.fs g hg).1
theorem Two.asideR {W : World} {c d : Nat} {l l' : List Bool} {sv tv : Value} {w : World} (h : Two W c d l l' sv tv w) {a : Value} {x : List (Int × Int × Int)} (ha : HoldsM W a x) : Aside a x d tv := aside_fresh ha h.dW fun g hg => (h.ft g hg).1
theorem ones_more (k : Nat) : List.replicate k true ++ bitsOf 1 1 = List.replicate (k + 1) true := by
  rw [List.replicate_succ']; rfl
theorem put_one (b : Nat) (sv : Value) (k : Nat) (w : World) (h : Wr w b sv (List.replicate k true)) (hk : k ≤ 100) :
    Calls Tryz.prog 18 #[.pointer (some ⟨b, 0, none⟩), .int .i64 1, .int .u64 1] w fun e w' => e = .returned (.int .i64 0) ∧ ∃ sv', PutLeft w w' b sv sv' (List.replicate (k + 1) true) := by
  have := put_any b sv _ 1 1 w h (by simp; omega)
  rw [show wrP (List.replicate k true) 1 1 = (0, List.replicate (k + 1) true) from by unfold wrP; rw [if_neg (by decide), if_neg (by decide)]; exact congrArg _ (ones_more k)] at this
  exact this
theorem rput_one (b : Nat) (sv : Value) (k : Nat) (w : World) (h : RWr w b sv (List.replicate k true)) (hk : k ≤ 100) :
    Calls Tryz.prog 19 #[.pointer (some ⟨b, 0, none⟩), .int .i64 1, .int .u64 1] w fun e w' => e = .returned (.int .i64 0) ∧ ∃ sv', RPut w w' b sv sv' (List.replicate (k + 1) true) := by
  have := rput_any b sv _ 1 1 w h (by simp; omega) (by decide)
  rw [show wrP (List.replicate k true) 1 1 = (0, List.replicate (k + 1) true) from by unfold wrP; rw [if_neg (by decide), if_neg (by decide)]; exact congrArg _ (ones_more k)] at this
  exact this
end Go.Proofs.YtjjjfmnhdnajkaaGreatDoor

end

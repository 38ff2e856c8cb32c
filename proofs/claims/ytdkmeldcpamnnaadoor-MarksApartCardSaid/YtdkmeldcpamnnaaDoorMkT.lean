/- Two writers, the program's and the reference's, made behind a world. -/
import Derived.Test.YtdkmeldcpamnnaaDoorMkK
namespace Go.Proofs.YtdkmeldcpamnnaaDoor
open Go.RowKit
set_option linter.unusedVariables false

structure Two (W : World) (c d : Nat) (l l' : List Bool) (sv tv : Value) (w : World) : Prop where
  wr : Wr w c sv l
  ref : RWr w d tv l'
  fs : ∀ g, g ∈ ownOf sv → W.heap.size ≤ g ∧ g ≠ d
  ft : ∀ g, g ∈ ownOf tv → W.heap.size ≤ g ∧ g ≠ c
  ap : ∀ g, g ∈ ownOf sv → g ∉ ownOf tv
  cW : W.heap.size ≤ c
  dW : W.heap.size ≤ d
  ne : c ≠ d
  only : Only [] W w
theorem Two.keep {W : World} {c d : Nat} {l l' : List Bool} {sv tv : Value} {w w' : World} (h : Two W c d l l' sv tv w) (k : Only [] w w') : Two W c d l l' sv tv w' :=
  ⟨h.wr.only k (by simp) (by simp), h.ref.only k (by simp) (by simp), h.fs, h.ft, h.ap, h.cW, h.dW, h.ne, h.only.trans k⟩
theorem Two.putW {W : World} {c d : Nat} {l l' m : List Bool} {sv tv sv' : Value} {w w' : World} (h : Two W c d l l' sv tv w) (hP : PutLeft w w' c sv sv' m) : Two W c d m l' sv' tv w' := by
  have hs := h.only.size
  have dl := h.ref.lt
  refine ⟨hP.wr, h.ref.only hP.only (fun e => ?_) (fun g hg e => ?_), fun g hg => ?_, h.ft, fun g hg e => ?_, h.cW, h.dW, h.ne, h.only.trans2 hP.only (fun x hx => ?_)⟩
  · rcases List.mem_cons.1 e with e | e
    · exact h.ne e.symm
    · exact (h.fs _ e).2 rfl
  · rcases List.mem_cons.1 e with e | e
    · exact (h.ft g hg).2 e
    · exact h.ap g e hg
  · rcases hP.own g hg with e | e
    · exact h.fs g e
    · exact ⟨by omega, by omega⟩
  · rcases hP.own g hg with x | x
    · exact h.ap g x e
    · have := h.ref.row.lt g e; omega
  · rcases List.mem_cons.1 hx with e | e
    · exact .inr (by rw [e]; exact h.cW)
    · exact .inr (h.fs x e).1
theorem Two.putR {W : World} {c d : Nat} {l l' m : List Bool} {sv tv tv' : Value} {w w' : World} (h : Two W c d l l' sv tv w) (hP : RPut w w' d tv tv' m) : Two W c d l m sv tv' w' := by
  have hs := h.only.size
  have cl := h.wr.lt
  refine ⟨h.wr.only hP.only (fun e => ?_) (fun g hg e => ?_), hP.wr, h.fs, fun g hg => ?_, fun g hg e => ?_, h.cW, h.dW, h.ne, h.only.trans2 hP.only (fun x hx => ?_)⟩
  · rcases List.mem_cons.1 e with e | e
    · exact h.ne e
    · exact (h.ft _ e).2 rfl
  · rcases List.mem_cons.1 e with e | e
    · exact (h.fs g hg).2 e
    · exact h.ap g hg e
  · rcases hP.own g hg with e | e
    · exact h.ft g e
    · exact ⟨by omega, by omega⟩
  · rcases hP.own g e with x | x
    · exact h.ap g hg x
    · have := h.wr.row.lt g hg; omega
  · rcases List.mem_cons.1 hx with e | e
    · exact .inr (by rw [e]; exact h.dW)
    · exact .inr (h.ft x e).1
theorem Two.asideW {W : World} {c d : Nat} {l l' : List Bool} {sv tv : Value} {w : World} (h : Two W c d l l' sv tv w) {a : Value} {x : List (Int × Int × Int)} (ha : HoldsM W a x) : Aside a x c sv := aside_fresh ha h.cW fun g hg => (h.fs g hg).1
theorem Two.asideR {W : World} {c d : Nat} {l l' : List Bool} {sv tv : Value} {w : World} (h : Two W c d l l' sv tv w) {a : Value} {x : List (Int × Int × Int)} (ha : HoldsM W a x) : Aside a x d tv := aside_fresh ha h.dW fun g hg => (h.ft g hg).1
theorem ones_more (k : Nat) : List.replicate k true ++ bitsOf 1 1 = List.replicate (k + 1) true := by
  rw [List.replicate_succ']; rfl
theorem put_one (b : Nat) (sv : Value) (k : Nat) (w : World) (h : Wr w b sv (List.replicate k true)) (hk : k ≤ 100) :
    Calls Tryd.prog 12 #[.pointer (some ⟨b, 0, none⟩), .int .i64 1, .int .u64 1] w fun e w' => e = .returned (.int .i64 0) ∧ ∃ sv', PutLeft w w' b sv sv' (List.replicate (k + 1) true) := by
  have := put_any b sv _ 1 1 w h (by simp; omega)
  rw [show wrP (List.replicate k true) 1 1 = (0, List.replicate (k + 1) true) from by unfold wrP; rw [if_neg (by decide), if_neg (by decide)]; exact congrArg _ (ones_more k)] at this
  exact this
theorem rput_one (b : Nat) (sv : Value) (k : Nat) (w : World) (h : RWr w b sv (List.replicate k true)) (hk : k ≤ 100) :
    Calls Tryd.prog 13 #[.pointer (some ⟨b, 0, none⟩), .int .i64 1, .int .u64 1] w fun e w' => e = .returned (.int .i64 0) ∧ ∃ sv', RPut w w' b sv sv' (List.replicate (k + 1) true) := by
  have := rput_any b sv _ 1 1 w h (by simp; omega) (by decide)
  rw [show wrP (List.replicate k true) 1 1 = (0, List.replicate (k + 1) true) from by unfold wrP; rw [if_neg (by decide), if_neg (by decide)]; exact congrArg _ (ones_more k)] at this
  exact this
end Go.Proofs.YtdkmeldcpamnnaaDoor

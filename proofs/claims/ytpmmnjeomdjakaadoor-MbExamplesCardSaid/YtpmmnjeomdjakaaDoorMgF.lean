/- What Check says of each spoilt macroblock. -/
import Derived.Test.YtpmmnjeomdjakaaDoorMgB
namespace Go.Proofs.YtpmmnjeomdjakaaDoor
open Go.RowKit
set_option linter.unusedVariables false
set_option linter.unusedSimpArgs false

section
variable {K c : Int} (k0 : 0 ≤ K) (k7 : K ≤ 7) (c0 : 0 ≤ c) (c1 : c ≤ 255)
include k0 k7 c0 c1
theorem in_qp (n : Int) (n0 : -9223372036854775808 ≤ n) (n1 : n ≤ 9223372036854775807) : MIn { plainM K c with qp := n } := by
  have h := pl_in K c k0 k7 c0 c1
  exact ⟨h.k0, h.k1, h.m0, h.m1, h.h0, h.h1, h.p, h.s, h.c0, h.c1, n0, n1⟩
theorem in_mode (n : Int) (n0 : 0 ≤ n) (n1 : n ≤ 255) : MIn { plainM K c with mode := n } := by
  have h := pl_in K c k0 k7 c0 c1
  exact ⟨h.k0, h.k1, n0, n1, h.h0, h.h1, h.p, h.s, h.c0, h.c1, h.q0, h.q1⟩
theorem in_pr (q : P16) (hq : ∀ y, y ∈ q.l → 0 ≤ y ∧ y ≤ 255) : MIn { plainM K c with pr := q } := by
  have h := pl_in K c k0 k7 c0 c1
  exact ⟨h.k0, h.k1, h.m0, h.m1, h.h0, h.h1, hq, h.s, h.c0, h.c1, h.q0, h.q1⟩
theorem in_lists (r : List Int) (v : List (Int × Int)) (b : List (List Int)) : MIn { plainM K c with refs := r, mvds := v, blocks := b } := by
  have h := pl_in K c k0 k7 c0 c1
  exact ⟨h.k0, h.k1, h.m0, h.m1, h.h0, h.h1, h.p, h.s, h.c0, h.c1, h.q0, h.q1⟩
theorem want_qp (n : Int) (n0 : -9223372036854775808 ≤ n) (n1 : n ≤ 9223372036854775807) : checkI { plainM K c with qp := n } false 3 = if (K == 1 || !(cbpP K c == 0)) = true then (if inI n (-26) 25 = true then 0 else 3) else (if (n == 0) = true then 0 else 2) := by
  rw [check_errs _ 3 (in_qp k0 k7 c0 c1 n n0 n1) (by show (plainM K c).kind ≤ 7; rw [pl_kind]; exact k7) (by omega) (by omega), sp_qp k0 k7 c0 c1 (by omega) n]
  have e : hasQ (plainM K c) = (K == 1 || !(cbpP K c == 0)) := by
    unfold hasQ
    rw [pl_kind, pl_cbpv]
    show (decide (K = 1) || (codedI K && !decide (cbpP K c = 0))) = (decide (K = 1) || !decide (cbpP K c = 0))
    cases hk : codedI K
    · have : cbpP K c = 0 := by unfold cbpP; rw [hk]; rfl
      rw [this]; simp
    · simp
  rw [e]
  unfold fixE
  have a1 : allI [n] (-26) 25 = inI n (-26) 25 := by simp [allI]
  have a2 : allI [n] 0 0 = (n == 0) := by simp [allI, inI_z]; rfl
  rw [a1, a2]
theorem want_mode (n : Int) (n0 : 0 ≤ n) (n1 : n ≤ 255) : checkI { plainM K c with mode := n } false 3 = if (K == 1) = true then (if inI n 0 3 = true then 0 else 3) else (if (n == 0) = true then 0 else 2) := by
  rw [check_errs _ 3 (in_mode k0 k7 c0 c1 n n0 n1) (by show (plainM K c).kind ≤ 7; rw [pl_kind]; exact k7) (by omega) (by omega), sp_mode k0 k7 c0 c1 (by omega) n]
  unfold fixE
  have a1 : allI [n] 0 3 = inI n 0 3 := by simp [allI]
  have a2 : allI [n] 0 0 = (n == 0) := by simp [allI, inI_z]; rfl
  rw [a1, a2]
theorem want_pr (q : P16) (i : Nat) (n : Int) (hi : i < 16) (hq : q.l = P16.zero.l.set i n) (n0 : 0 ≤ n) (n1 : n ≤ 255) : MIn { plainM K c with pr := q } ∧ checkI { plainM K c with pr := q } false 3 = if (K == 0) = true then (if inI n 0 8 = true then 0 else 3) else (if (n == 0) = true then 0 else 2) := by
  have hin : MIn { plainM K c with pr := q } := in_pr k0 k7 c0 c1 q (fun y hy => by
    rw [hq] at hy
    rcases List.mem_or_eq_of_mem_set hy with h | h
    · have := p16z y h; omega
    · omega)
  refine ⟨hin, ?_⟩
  rw [check_errs _ 3 hin (by show (plainM K c).kind ≤ 7; rw [pl_kind]; exact k7) (by omega) (by omega), sp_pr k0 k7 c0 c1 (by omega) q i n hi hq]
  by_cases h : n = 0
  · subst h; rfl
  · have : (n == 0) = false := by simpa using h
    rw [this, if_neg h]
    rfl
theorem want_refs (i : Nat) (n : Int) (hi : i < nRef K) : MIn { plainM K c with refs := (plainM K c).refs.set i n } ∧ checkI { plainM K c with refs := (plainM K c).refs.set i n } false 3 = if inI n 0 2 = true then 0 else 3 := by
  have hin : MIn { plainM K c with refs := (plainM K c).refs.set i n } := in_lists k0 k7 c0 c1 _ _ _
  refine ⟨hin, ?_⟩
  rw [check_errs _ 3 hin (by show (plainM K c).kind ≤ 7; rw [pl_kind]; exact k7) (by omega) (by omega), sp_refs k0 k7 c0 c1 (by omega) i n hi]
  rfl
theorem want_mvds (i : Nat) (n : Int) (hi : i < nRef K) : MIn { plainM K c with mvds := (plainM K c).mvds.set i (n, 0) } ∧ checkI { plainM K c with mvds := (plainM K c).mvds.set i (n, 0) } false 3 = if inI n (-8192) 8192 = true then 0 else 3 := by
  have hin : MIn { plainM K c with mvds := (plainM K c).mvds.set i (n, 0) } := in_lists k0 k7 c0 c1 _ _ _
  refine ⟨hin, ?_⟩
  rw [check_errs _ 3 hin (by show (plainM K c).kind ≤ 7; rw [pl_kind]; exact k7) (by omega) (by omega), sp_mvds k0 k7 c0 c1 (by omega) i n hi]
theorem want_blks (bs : List (List Int)) (e R : Int) (r0 : 1 ≤ R) (r1 : R ≤ 32) (h : blksP { plainM K c with blocks := bs } = e) : MIn { plainM K c with blocks := bs } ∧ checkI { plainM K c with blocks := bs } false R = e := by
  have hin : MIn { plainM K c with blocks := bs } := in_lists k0 k7 c0 c1 _ _ _
  refine ⟨hin, ?_⟩
  rw [check_errs _ R hin (by show (plainM K c).kind ≤ 7; rw [pl_kind]; exact k7) r0 r1, blks_only k0 k7 c0 c1 r0 bs e h]
end
theorem few_lists (K c : Int) (r : List Int) (v : List (Int × Int)) (b : List (List Int)) (h1 : r.length ≤ 4) (h2 : v.length ≤ 4) (h3 : b.length ≤ 100) (h4 : ∀ l, l ∈ b → l.length ≤ 16) : MFew { plainM K c with refs := r, mvds := v, blocks := b } :=
  ⟨by show r.length ≤ 1000; omega, by show v.length ≤ 1000; omega, by show b.length ≤ 1000; omega, fun l hl => by have := h4 l hl; omega⟩
theorem pl_lens (K c : Int) : (plainM K c).refs.length = nRef K ∧ (plainM K c).mvds.length = nRef K ∧ (plainM K c).blocks.length ≤ 27 ∧ ∀ l, l ∈ (plainM K c).blocks → l.length ≤ 16 ∧ 1 ≤ l.length := by
  refine ⟨by rw [pl_refsv, List.length_replicate], by rw [pl_mvdsv, List.length_replicate], ?_, ?_⟩
  · rw [pl_blocksv, zerosB_len]; exact blocksL_len _ _
  · intro l hl
    rw [pl_blocksv] at hl
    have := zerosB_in _ (fun c hc => blocksL_cat _ _ c hc) l hl
    exact ⟨this.1, this.2.1⟩
end Go.Proofs.YtpmmnjeomdjakaaDoor

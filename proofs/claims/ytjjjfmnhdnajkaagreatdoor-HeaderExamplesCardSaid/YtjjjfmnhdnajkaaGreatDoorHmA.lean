/- Plain: units and headers that are made valid. -/
import Derived.Test.YtjjjfmnhdnajkaaGreatDoorMg9
import Derived.Test.YtjjjfmnhdnajkaaGreatDoorMg20
namespace Go.Proofs.YtjjjfmnhdnajkaaGreatDoor
set_option linter.unusedVariables false
set_option linter.unusedSimpArgs false

/-- Eight numbers. -/
structure N8 where
  a : Int
  b : Int
  c : Int
  d : Int
  e : Int
  f : Int
  g : Int
  h : Int
def validP (n : N8) : PV := ⟨n.a % 32, n.b % 32, bits .and .i64 n.h 1 == 1, 1 + n.c % 32, 1 + n.d % 32, n.e % 52 - 26, n.f % 52 - 26, n.g % 25 - 12, bits .and .i64 n.h 2 == 2, bits .and .i64 n.h 4 == 4⟩
def widS (n : N8) : Int := 1 + n.f % 128
def validS (n : N8) (r : Int × Int × Int) : SV := ⟨r.1, r.2.1, r.2.2, n.b % 32, 4 + n.c % 13, 4 + n.d % 13, n.e % 17, widS n, 1 + n.g % (min 128 (8160 / widS n))⟩
theorem widS_in (n : N8) : 1 ≤ widS n ∧ widS n ≤ 128 := by unfold widS; omega
theorem most_in {w : Int} (h : 1 ≤ w ∧ w ≤ 128) : 1 ≤ min (128 : Int) (8160 / w) ∧ min (128 : Int) (8160 / w) ≤ 128 := by
  have : 1 ≤ 8160 / w := (Int.le_ediv_iff_mul_le (by omega)).2 (by omega)
  omega
theorem validP_ok (n : N8) : okP (validP n) = true := by
  unfold okP validP
  simp only [Bool.and_eq_true]
  refine ⟨⟨⟨⟨⟨⟨?_, ?_⟩, ?_⟩, ?_⟩, ?_⟩, ?_⟩, ?_⟩ <;> refine inB_mk ?_ ?_ <;> omega
theorem validS_ok (n : N8) (r : Int × Int × Int) : okS (validS n r) = true := by
  have h1 := widS_in n
  have h2 := most_in h1
  have h3 := Int.emod_nonneg n.g (show min (128 : Int) (8160 / widS n) ≠ 0 by omega)
  have h4 := Int.emod_lt_of_pos n.g (show 0 < min (128 : Int) (8160 / widS n) by omega)
  unfold okS validS mostH
  simp only [Bool.and_eq_true]
  refine ⟨⟨⟨⟨⟨inB_mk ?_ ?_, inB_mk ?_ ?_⟩, inB_mk ?_ ?_⟩, inB_mk ?_ ?_⟩, inB_mk ?_ ?_⟩, inB_mk ?_ ?_⟩ <;> omega
/-- The unit. -/
def madeP (n : N8) (s : SV) : PV := { validP n with sps := s.id }
def refU (ref : Int) (idr : Bool) : Int := if idr = true then max (ref % 4) 1 else ref % 4
def madeU (un : UN) (n : N8) (r : Int × Int × Int) : UN := ⟨refU un.ref un.idr, un.idr, madeP n (validS n r), validS n r⟩
theorem madeU_ok (un : UN) (n : N8) (r : Int × Int × Int) (h : 0 ≤ un.ref) : unE (madeU un n r) = 0 := by
  have h1 : okS (madeU un n r).s = true := validS_ok n r
  have h2 : okP (madeU un n r).p = true := by
    have h3 := validP_ok n
    have h4 := okS_id (validS_ok n r)
    unfold okP at h3 ⊢
    simp only [madeU, madeP, Bool.and_eq_true] at h3 ⊢
    exact ⟨⟨⟨⟨⟨⟨h3.1.1.1.1.1.1, inB_mk h4.1 h4.2⟩, h3.1.1.1.1.2⟩, h3.1.1.1.2⟩, h3.1.1.2⟩, h3.1.2⟩, h3.2⟩
  have h3 : isU (madeU un n r) = true := by
    unfold isU madeU refU
    cases un.idr
    · simp only [Bool.false_eq_true, if_false, Bool.not_false, Bool.or_true, Bool.and_true]; exact decide_eq_true (by omega)
    · simp only [if_true, Bool.not_true, Bool.or_false, Bool.and_eq_true]; exact ⟨decide_eq_true (by omega), decide_eq_true (by omega)⟩
  unfold unE
  rw [if_neg (by simp [h3]), if_neg (by simp [h1]), if_neg (by simp [h2]), if_neg (by simp [madeU, madeP])]
/-- Valid commands out of any. -/
def cmdM (m : Bool) (x : Int × Int × Int) : Int × Int × Int := (if m = true then 1 + x.1 % 2 else x.1 % 3, x.2.1 % 1048576, 0)
def cmdsM (has m : Bool) (l : List (Int × Int × Int)) : List (Int × Int × Int) := if has = true then (l.take 20).map (cmdM m) else []
theorem cmdM_err (m : Bool) (x : Int × Int × Int) : errI m (cmdM m x) = 0 := by
  unfold cmdM
  cases m
  · refine errI_of ?_ ?_ ?_ ?_ ?_ ?_ ?_ <;> simp [hasI] <;> omega
  · simp only [if_true]
    have h : x.1 % 2 = 0 ∨ x.1 % 2 = 1 := by omega
    rcases h with h | h <;> rw [h] <;> refine errI_of ?_ ?_ ?_ ?_ ?_ ?_ ?_ <;> simp [hasI] <;> omega
theorem cmdM_ok (m : Bool) (x : Int × Int × Int) : OkM (cmdM m x) := by
  unfold cmdM OkM
  cases m
  · simp only [Bool.false_eq_true, if_false]; omega
  · simp only [if_true]; omega
theorem cmdsM_at {has m : Bool} {l : List (Int × Int × Int)} {j : Nat} {x : Int × Int × Int} (h : (cmdsM has m l)[j]? = some x) : errI m x = 0 ∧ OkM x := by
  unfold cmdsM at h
  cases has
  · simp at h
  · rw [if_pos rfl, List.getElem?_map] at h
    obtain ⟨y, _, rfl⟩ := Option.map_eq_some_iff.1 h
    exact ⟨cmdM_err m y, cmdM_ok m y⟩
theorem cmdsM_len (has m : Bool) (l : List (Int × Int × Int)) : (cmdsM has m l).length ≤ 20 := by
  unfold cmdsM
  cases has
  · simp
  · rw [if_pos rfl, List.length_map, List.length_take]; omega
theorem cmdsM_check (has m : Bool) (l : List (Int × Int × Int)) : checkI m (cmdsM has m l) = 0 := by
  unfold checkI
  rw [if_neg (by have := cmdsM_len has m l; omega)]
  exact firstE_of fun j x hx => (cmdsM_at hx).1
theorem cmdsM_oks (has m : Bool) (l : List (Int × Int × Int)) : OksM (cmdsM has m l) := fun j x hx => (cmdsM_at hx).2
/-- The header, for a unit that was made. -/
def inM (un : UN) (x : HV) : Bool := un.idr || x.intra
def overM (un : UN) (x : HV) : Bool := x.over && !inM un x
def listM (un : UN) (x : HV) : Bool := x.listed && !inM un x
def adM (un : UN) (x : HV) : Bool := x.ad && (!un.idr && decide (0 < un.ref))
def filM (un : UN) (x : HV) : Int := if un.p.db = true then x.fil % 3 else 0
def offM (un : UN) (x : HV) (v : Int) : Int := if un.p.db = true ∧ x.fil % 3 ≠ 1 then v % 13 - 6 else 0
def madeH (un : UN) (x : HV) : HV :=
  ⟨x.fi % (un.s.wd * un.s.ht), inM un x, x.whole, un.p.id, x.fr % 2 ^ un.s.fb.toNat, if un.idr = true then x.idr % 65536 else 0, x.poc % 2 ^ un.s.pb.toNat, overM un x,
    if overM un x = true then 1 + x.refs % 32 else 0, listM un x, cmdsM (listM un x) false x.mods, un.idr && x.f0, un.idr && x.f1, adM un x, cmdsM (adM un x) true x.marks,
    if inM un x = false ∧ un.p.cab = true then x.ini % 3 else 0, x.qp % 52 - 26 - un.p.qp, filM un x, offM un x x.a, offM un x x.b⟩
theorem numE_of {has : Bool} {v : Int} {c : Cd} (h1 : has = true → c.lo ≤ v ∧ v ≤ c.hi) (h2 : has = false → v = 0) : numE has v c = 0 := by
  unfold numE
  cases has
  · simp [h2 rfl]
  · rw [if_pos rfl]; exact numC_iff.2 (h1 rfl)
theorem flagE_of {has v : Bool} (h : has = false → v = false) : flagE has v = 0 := by
  unfold flagE
  cases has
  · simp [h rfl]
  · rfl
theorem lstE_of {has m : Bool} {l : List (Int × Int × Int)} (h1 : checkI m l = 0) (h2 : has = false → l = []) : lstE has m l = 0 := by
  unfold lstE
  cases has
  · simp [h2 rfl]
  · rw [if_pos rfl]; exact h1
theorem pow_pos (k : Nat) : (0 : Int) < 2 ^ k := Int.pow_pos (by decide)
theorem restE_of {un : UN} {x : HV} (h : ∀ j, j < 15 → stepE un x j = 0) : restE un x 15 0 = 0 := by
  have : ∀ k j, j + k ≤ 15 → restE un x k j = 0 := by
    intro k
    induction k with
    | zero => intro j _; rfl
    | succ k ih => intro j hj; rw [restE, if_neg (fun z => z (h j (by omega)))]; exact ih (j + 1) (by omega)
  exact this 15 0 (by omega)
theorem u_in (n : Int) (v : Int) : (Cd.u n).lo ≤ v % 2 ^ n.toNat ∧ v % 2 ^ n.toNat ≤ (Cd.u n).hi := by
  have p := pow_pos n.toNat
  have h1 := Int.emod_nonneg v (show (2 : Int) ^ n.toNat ≠ 0 by omega)
  have h2 := Int.emod_lt_of_pos v p
  simp only [Cd.lo, Cd.hi]
  omega
theorem madeH_begin {un : UN} (hs : okS un.s = true) (x : HV) : beginE un (madeH un x) = 0 := by
  have h := okS_size hs
  have h1 := Int.emod_nonneg x.fi (show un.s.wd * un.s.ht ≠ 0 by omega)
  have h2 := Int.emod_lt_of_pos x.fi (show 0 < un.s.wd * un.s.ht by omega)
  have h3 : numC (firstC un) (madeH un x).fi = 0 := numC_iff.2 (by simp only [firstC, Cd.lo, Cd.hi, madeH]; omega)
  unfold beginE
  rw [if_neg (fun z => z h3), if_neg (fun z => by have := z.2; simp [madeH, inM, z.1] at this), if_neg (fun z => z rfl)]
theorem flt_made (un : UN) (x : HV) : fltH un (madeH un x) = decide (un.p.db = true ∧ x.fil % 3 ≠ 1) := by
  show (un.p.db && decide (filM un x ≠ 1)) = _
  unfold filM
  cases un.p.db <;> simp
theorem off_in {un : UN} {x : HV} (h : un.p.db = true ∧ x.fil % 3 ≠ 1) (v : Int) : (Cd.se (-6) 6).lo ≤ offM un x v ∧ offM un x v ≤ (Cd.se (-6) 6).hi := by
  unfold offM; rw [if_pos h]; simp only [Cd.lo, Cd.hi]; omega
theorem off_no {un : UN} {x : HV} (h : ¬ (un.p.db = true ∧ x.fil % 3 ≠ 1)) (v : Int) : offM un x v = 0 := by unfold offM; rw [if_neg h]
theorem madeH_rest {un : UN} (x : HV) : restE un (madeH un x) 15 0 = 0 := by
  refine restE_of fun j hj => ?_
  match j, hj with
  | 0, _ => exact numE_of (fun _ => u_in _ _) (by simp)
  | 1, _ => exact numE_of (fun h => by simp only [madeH, if_pos h, Cd.lo, Cd.hi]; omega) (fun h => by simp [madeH, h])
  | 2, _ => exact numE_of (fun _ => u_in _ _) (by simp)
  | 3, _ => exact flagE_of (fun h => by simp [madeH, overM] at h ⊢; exact fun _ => h)
  | 4, _ => exact numE_of (fun h => by simp only [madeH] at h ⊢; rw [if_pos h]; simp only [Cd.lo, Cd.hi]; omega) (fun h => by simp only [madeH] at h ⊢; rw [if_neg (by simp [h])])
  | 5, _ => exact flagE_of (fun h => by simp [madeH, listM] at h ⊢; exact fun _ => h)
  | 6, _ => exact lstE_of (cmdsM_check _ _ _) (fun h => by simp only [madeH] at h ⊢; simp [cmdsM, h])
  | 7, _ =>
    have h1 : flagE un.idr (madeH un x).f0 = 0 := flagE_of (fun h => by simp [madeH, h])
    have h2 : flagE un.idr (madeH un x).f1 = 0 := flagE_of (fun h => by simp [madeH, h])
    unfold stepE
    rw [if_neg (fun z => z h1)]; exact h2
  | 8, _ => exact flagE_of (fun h => by
      simp only [adH] at h
      simp only [madeH, adM]
      rw [h, Bool.and_false])
  | 9, _ => exact lstE_of (cmdsM_check _ _ _) (fun h => by simp only [madeH] at h ⊢; simp [cmdsM, h])
  | 10, _ => exact numE_of (fun h => by
      simp only [iniH, madeH, Bool.and_eq_true, Bool.not_eq_true'] at h ⊢
      rw [if_pos h]; simp only [Cd.lo, Cd.hi]; omega) (fun h => by
      simp only [iniH, madeH] at h ⊢
      rw [if_neg (fun z => by simp [z.1, z.2] at h)])
  | 11, _ => exact numE_of (fun h => by simp only [qpC, madeH, Cd.lo, Cd.hi]; omega) (by simp)
  | 12, _ => exact numE_of (fun h => by simp only [madeH, filM, if_pos h, Cd.lo, Cd.hi]; omega) (fun h => by simp [madeH, filM, h])
  | 13, _ => exact numE_of (fun h => off_in (of_decide_eq_true (flt_made un x ▸ h)) _) (fun h => off_no (of_decide_eq_false (flt_made un x ▸ h)) _)
  | 14, _ => exact numE_of (fun h => off_in (of_decide_eq_true (flt_made un x ▸ h)) _) (fun h => off_no (of_decide_eq_false (flt_made un x ▸ h)) _)
theorem made_ok (un : UN) (n : N8) (r : Int × Int × Int) (x : HV) (h : 0 ≤ un.ref) : checkH (madeU un n r) (madeH (madeU un n r) x) = 0 := by
  unfold checkH
  rw [if_neg (fun z => z (madeU_ok un n r h)), if_neg (fun z => z (madeH_begin (validS_ok n r) x))]
  exact madeH_rest x
end Go.Proofs.YtjjjfmnhdnajkaaGreatDoor

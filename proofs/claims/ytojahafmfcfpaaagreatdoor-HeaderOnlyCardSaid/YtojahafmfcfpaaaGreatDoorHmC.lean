/- The laws' helpers: a header and a unit that are made valid. -/
import Derived.Test.YtojahafmfcfpaaaGreatDoorHmE
import Derived.Test.YtojahafmfcfpaaaGreatDoorHmD
import Derived.Test.YtojahafmfcfpaaaGreatDoorMg14
import Derived.Test.YtojahafmfcfpaaaGreatDoorQlate
namespace Go.Proofs.YtojahafmfcfpaaaGreatDoor
open Go.RowKit
set_option linter.unusedVariables false
set_option linter.unusedSimpArgs false

/-! ### The steps. -/
def mS1 (un : UN) (x : HV) : HV := { x with intra := un.idr || x.intra }
def mS2 (un : UN) (x : HV) : HV := { x with fi := x.fi % (un.s.wd * un.s.ht), pps := un.p.id }
def mS3 (un : UN) (x : HV) : HV := { x with fr := x.fr % 2 ^ un.s.fb.toNat, poc := x.poc % 2 ^ un.s.pb.toNat }
def mS4 (x : HV) : HV := { x with idr := x.idr % 65536 }
def mS5 (un : UN) (x : HV) : HV := { x with idr := if un.idr = true then x.idr else 0, f0 := un.idr && x.f0, f1 := un.idr && x.f1 }
def mS6 (x : HV) : HV := { x with over := x.over && !x.intra, listed := x.listed && !x.intra }
def mS7 (x : HV) : HV := { x with refs := 1 + x.refs % 32 }
def mS8 (x : HV) : HV := { x with refs := if x.over = true then x.refs else 0 }
def mS9 (un : UN) (x : HV) : HV := { x with ad := x.ad && (!un.idr && decide (0 < un.ref)) }
def mS10 (x : HV) : HV := { x with mods := cmdsM x.listed false x.mods, marks := cmdsM x.ad true x.marks }
def mS11 (x : HV) : HV := { x with ini := x.ini % 3 }
def mS12 (un : UN) (x : HV) : HV := { x with ini := if x.intra = false ∧ un.p.cab = true then x.ini else 0 }
def mS13 (un : UN) (x : HV) : HV := { x with qp := x.qp % 52 - 26 - un.p.qp }
def mS14 (x : HV) : HV := { x with fil := x.fil % 3, a := x.a % 13 - 6, b := x.b % 13 - 6 }
def mS15 (un : UN) (x : HV) : HV := { x with fil := if un.p.db = true then x.fil else 0 }
def mS16 (un : UN) (x : HV) : HV := { x with a := if un.p.db = true ∧ x.fil ≠ 1 then x.a else 0, b := if un.p.db = true ∧ x.fil ≠ 1 then x.b else 0 }
theorem made_steps (un : UN) (x : HV) : mS16 un (mS15 un (mS14 (mS13 un (mS12 un (mS11 (mS10 (mS9 un (mS8 (mS7 (mS6 (mS5 un (mS4 (mS3 un (mS2 un (mS1 un x))))))))))))))) = madeH un x := by
  have h : ∀ v : Int, (if un.p.db = true ∧ (if un.p.db = true then x.fil % 3 else 0) ≠ 1 then v % 13 - 6 else 0) = offM un x v := by
    intro v
    unfold offM
    cases un.p.db <;> simp
  have hi : (if un.idr = true then x.idr % 65536 else 0) = (if un.idr = true then x.idr % 65536 else 0) := rfl
  rw [HV.eq_iff]
  refine ⟨rfl, rfl, rfl, rfl, rfl, rfl, rfl, rfl, rfl, rfl, rfl, rfl, rfl, rfl, rfl, rfl, rfl, rfl, h _, h _⟩
def u0 : UN := ⟨0, false, p0, s0⟩
/-! ### What is in memory. -/
structure Md (W0 : World) (X U : Nat) (w : World) (x : HV) (un : UN) (ma : Option Addr) (mc : Nat) (ka : Option Addr) (kc : Nat) : Prop where
  bx : Blk w X 25 (hC x (.slice ma x.mods.length mc) (.slice ka x.marks.length kc)).toArray
  bu : Blk w U 31 (uL un).toArray
  hm : HoldsM w (.slice ma x.mods.length mc) x.mods
  hk : HoldsM w (.slice ka x.marks.length kc) x.marks
  fm : ∀ a, ma = some a → x.mods ≠ [] → a.block ≠ X ∧ a.block ≠ U
  fk : ∀ a, ka = some a → x.marks ≠ [] → a.block ≠ X ∧ a.block ≠ U
  ne : X ≠ U
  o : Only [X, U] W0 w
section
variable {W0 w w' : World} {X U : Nat} {x x' : HV} {un un' : UN} {ma ka : Option Addr} {mc kc : Nat}
theorem Md.only (h : Md W0 X U w x un ma mc ka kc) (k : Only [] w w') : Md W0 X U w' x un ma mc ka kc :=
  ⟨h.bx.only k (by simp), h.bu.only k (by simp), h.hm.only0 k, h.hk.only0 k, h.fm, h.fk, h.ne, h.o.trans (k.mono (by simp))⟩
theorem Md.lists (h : Md W0 X U w x un ma mc ka kc) {S : List Nat} (k : Only S w w') (hS : ∀ y, y ∈ S → y = X ∨ y = U) : HoldsM w' (.slice ma x.mods.length mc) x.mods ∧ HoldsM w' (.slice ka x.marks.length kc) x.marks :=
  ⟨h.hm.only2 k (fun ad n c e hl hm => by cases e; obtain ⟨a, b⟩ := h.fm ad rfl hl; rcases hS _ hm with e | e <;> contradiction), h.hk.only2 k (fun ad n c e hl hm => by cases e; obtain ⟨a, b⟩ := h.fk ad rfl hl; rcases hS _ hm with e | e <;> contradiction)⟩
theorem Md.setX (h : Md W0 X U w x un ma mc ka kc) (i : Nat) (v : Value) (hs : (hC x (.slice ma x.mods.length mc) (.slice ka x.marks.length kc)).toArray.setIfInBounds i v = (hC x' (.slice ma x'.mods.length mc) (.slice ka x'.marks.length kc)).toArray) (h1 : x'.mods = x.mods) (h2 : x'.marks = x.marks) :
    Md W0 X U (w.setCell ⟨X, i, none⟩ v) x' un ma mc ka kc := by
  have ox : Only [X] w (w.setCell ⟨X, i, none⟩ v) := (Only.refl _ _).setCell (.inl (by simp)) _
  have kl := h.lists ox (fun y hy => .inl (List.mem_singleton.1 hy))
  refine ⟨hs ▸ h.bx.set i v, h.bu.only ox (by simp; exact h.ne.symm), by rw [h1]; exact kl.1, by rw [h2]; exact kl.2, by rw [h1]; exact h.fm, by rw [h2]; exact h.fk, h.ne, h.o.trans (ox.mono (by intro y _ hy; simp at hy ⊢; exact .inl hy))⟩
theorem Md.setU (h : Md W0 X U w x un ma mc ka kc) (i : Nat) (v : Value) (hs : (uL un).toArray.setIfInBounds i v = (uL un').toArray) : Md W0 X U (w.setCell ⟨U, i, none⟩ v) x un' ma mc ka kc := by
  have ox : Only [U] w (w.setCell ⟨U, i, none⟩ v) := (Only.refl _ _).setCell (.inl (by simp)) _
  have kl := h.lists ox (fun y hy => .inr (List.mem_singleton.1 hy))
  exact ⟨h.bx.only ox (by simp; exact h.ne), hs ▸ h.bu.set i v, kl.1, kl.2, h.fm, h.fk, h.ne, h.o.trans (ox.mono (by intro y _ hy; simp at hy ⊢; exact .inr hy))⟩
theorem Md.c (h : Md W0 X U w x un ma mc ka kc) {i : Nat} {v : Value} (hi : (hC x (.slice ma x.mods.length mc) (.slice ka x.marks.length kc)).toArray[i]? = some v) : w.cell? ⟨X, i, none⟩ = some v ∧ w.frozen? ⟨X, i, none⟩ = false := ⟨h.bx.cell hi, h.bx.frozen i⟩
theorem Md.u (h : Md W0 X U w x un ma mc ka kc) {i : Nat} {v : Value} (hi : (uL un).toArray[i]? = some v) : w.cell? ⟨U, i, none⟩ = some v ∧ w.frozen? ⟨U, i, none⟩ = false := ⟨h.bu.cell hi, h.bu.frozen i⟩
end
theorem lv_unit {w : World} {k : Nat} {T : TypeId} {un : UN} (h : Blk w k T (uL un).toArray) : (loadVar 31 ⟨k, 0, none⟩).run Tryz.prog w = .ok (uV un) w := by
  have add : ∀ j : Nat, (⟨k, 0, none⟩ : Addr).add j = ⟨k, j, none⟩ := fun j => by cases j <;> simp [Addr.add]
  have hl := run_loadCells_list (P := Tryz.prog) w ⟨k, 0, none⟩ (uL un) (fun j v hj => by rw [add]; exact h.cell (by simpa using hj))
  rw [show (uL un).length = 21 from rfl] at hl
  simp only [loadVar]
  simp [hl, uV]
theorem hl_unit (k : Nat) (un : UN) (w : World) (hc : ∀ j v, (uL un)[j]? = some v → w.cell? ⟨k, j, none⟩ = some v) : (Instr.loadAt 31 (.pointer (some ⟨k, 0, none⟩))).run Tryz.prog w = .ok (.agg (uL un).toArray) w := by
  have add : ∀ j : Nat, (⟨k, 0, none⟩ : Addr).add j = ⟨k, j, none⟩ := fun j => by cases j <;> simp [Addr.add]
  have hl := run_loadCells_list (P := Tryz.prog) w ⟨k, 0, none⟩ (uL un) (fun j v hj => by rw [add]; exact hc j v hj)
  rw [show (uL un).length = 21 from rfl] at hl
  simp only [Instr.loadAt, Instr.sureAddr, Sem.run_bind, Sem.run_pure, Result.andThen_ok, loadVar]
  simp [hl]
theorem info_unit (un : UN) : (Tryz.prog.info? 31).map (·.size) = some (uL un).length := by
  show _ = some 21
  kernel_rfl
theorem one_uL (un : UN) : ∀ v ∈ uL un, v.oneCell' = true := by
  intro v h
  simp only [uL, List.mem_append, List.mem_cons, List.not_mem_nil, or_false] at h
  rcases h with (h | h) | h | h
  · subst h; rfl
  · subst h; rfl
  · exact one_pL _ v h
  · exact one_sL _ v h
theorem holdsM_lt {w : World} {ma : Option Addr} {k c : Nat} {l : List (Int × Int × Int)} {a : Addr} (h : HoldsM w (.slice ma k c) l) (e : ma = some a) (hl : l ≠ []) : a.block < w.heap.size := by
  subst e
  cases l with
  | nil => exact absurd rfl hl
  | cons y r =>
    obtain ⟨b, o, e, hx⟩ := h.at (j := 0) (x := y) rfl
    cases e
    exact World.block_lt_of_cell? _ _ hx.c0
theorem okP_qpM {p : PV} (h : okP p = true) : -26 ≤ p.qp ∧ p.qp ≤ 25 := by
  unfold okP at h
  simp only [Bool.and_eq_true] at h
  exact inB_true h.1.1.2
theorem blk5 (w : World) (ta tb tc td te : TypeId) (a b c d e : Array Value) :
    ∃ W, W = ((((w.alloc (.cells a ta)).alloc (.cells b tb)).alloc (.cells c tc)).alloc (.cells d td)).alloc (.cells e te) ∧ Blk W w.heap.size ta a ∧ Blk W (w.heap.size + 1) tb b ∧ Blk W (w.heap.size + 1 + 1) tc c ∧ Blk W (w.heap.size + 1 + 1 + 1) td d ∧ Blk W (w.heap.size + 1 + 1 + 1 + 1) te e ∧ Only [] w W := by
  have s1 : (w.alloc (.cells a ta)).heap.size = w.heap.size + 1 := World.size_alloc _ _
  have s2 : ((w.alloc (.cells a ta)).alloc (.cells b tb)).heap.size = w.heap.size + 1 + 1 := by rw [World.size_alloc, s1]
  have s3 : (((w.alloc (.cells a ta)).alloc (.cells b tb)).alloc (.cells c tc)).heap.size = w.heap.size + 1 + 1 + 1 := by rw [World.size_alloc, s2]
  have s4 : ((((w.alloc (.cells a ta)).alloc (.cells b tb)).alloc (.cells c tc)).alloc (.cells d td)).heap.size = w.heap.size + 1 + 1 + 1 + 1 := by rw [World.size_alloc, s3]
  have b1 := Blk.new w ta a
  have b2 := Blk.new (w.alloc (.cells a ta)) tb b
  have b3 := Blk.new ((w.alloc (.cells a ta)).alloc (.cells b tb)) tc c
  have b4 := Blk.new (((w.alloc (.cells a ta)).alloc (.cells b tb)).alloc (.cells c tc)) td d
  have b5 := Blk.new ((((w.alloc (.cells a ta)).alloc (.cells b tb)).alloc (.cells c tc)).alloc (.cells d td)) te e
  rw [s1] at b2
  rw [s2] at b3
  rw [s3] at b4
  rw [s4] at b5
  exact ⟨_, rfl, b1.only (((((Only.refl [] _).alloc _).alloc _).alloc _).alloc _) (by simp), b2.only ((((Only.refl [] _).alloc _).alloc _).alloc _) (by simp), b3.only (((Only.refl [] _).alloc _).alloc _) (by simp), b4.only ((Only.refl [] _).alloc _) (by simp), b5, ((((((Only.refl [] _).alloc _).alloc _).alloc _).alloc _).alloc _)⟩
theorem hl_n8 (k : Nat) (n : N8) (w : World) (hc : ∀ j v, (nL n)[j]? = some v → w.cell? ⟨k, j, none⟩ = some v) : (Instr.loadAt 75 (.pointer (some ⟨k, 0, none⟩))).run Tryz.prog w = .ok (.agg (nL n).toArray) w := by
  have add : ∀ j : Nat, (⟨k, 0, none⟩ : Addr).add j = ⟨k, j, none⟩ := fun j => by cases j <;> simp [Addr.add]
  have hl := run_loadCells_list (P := Tryz.prog) w ⟨k, 0, none⟩ (nL n) (fun j v hj => by rw [add]; exact hc j v hj)
  rw [show (nL n).length = 8 from rfl] at hl
  simp only [Instr.loadAt, Instr.sureAddr, Sem.run_bind, Sem.run_pure, Result.andThen_ok, loadVar]
  simp [hl]
theorem setsU_p (un : UN) (p : PV) : setsA (uL un).toArray 2 (pL p) = (uL { un with p := p }).toArray := by simp [setsA, uL, pL, sL]
theorem setsU_s (un : UN) (s : SV) : setsA (uL un).toArray 12 (sL s) = (uL { un with s := s }).toArray := by simp [setsA, uL, pL, sL]
theorem setsU_all (u un : UN) : setsA (uL u).toArray 0 (uL un) = (uL un).toArray := setsA_full (by simp [uL, pL, sL])
set_option maxRecDepth 100000 in
set_option maxHeartbeats 16000000 in
theorem made_any (x : HV) (un : UN) (n : N8) (mv kv : Value) (w : World) (h1 : HoldsM w mv x.mods) (h2 : HoldsM w kv x.marks) (o1 : OksM x.mods) (o2 : OksM x.marks) (r0 : 0 ≤ un.ref) :
    Calls Tryz.prog 40 #[hV x mv kv, uV un, nV n] w fun e w' => ∃ mv' kv', e = .returned (.tuple #[hV (madeH (madeU un n (bytesN n)) x) mv' kv', uV (madeU un n (bytesN n))]) ∧
      HoldsM w' mv' (madeH (madeU un n (bytesN n)) x).mods ∧ HoldsM w' kv' (madeH (madeU un n (bytesN n)) x).marks ∧ Only [] w w' ∧ ∀ g, g ∈ ownOf mv' ∨ g ∈ ownOf kv' → w.heap.size ≤ g := by
  obtain ⟨ma, mc, hmv⟩ := holdsM_slice h1
  obtain ⟨ka, kc, hkv⟩ := holdsM_slice h2
  subst hmv hkv
  obtain ⟨W, hW, bX, bU, bN, b6, b7, oW⟩ := blk5 w 25 31 75 25 31 (hC x (.slice ma x.mods.length mc) (.slice ka x.marks.length kc)).toArray (uL un).toArray (nL n).toArray (hC h0 (.slice none 0 0) (.slice none 0 0)).toArray (uL u0).toArray
  obtain ⟨X, hX⟩ : ∃ X, X = w.heap.size := ⟨_, rfl⟩
  rw [← hX] at bX bU bN b6 b7
  have lm : ∀ a, ma = some a → x.mods ≠ [] → a.block ≠ X ∧ a.block ≠ X + 1 := fun a e hl => by
    have := holdsM_lt h1 (by rw [e]) hl; omega
  have lk : ∀ a, ka = some a → x.marks ≠ [] → a.block ≠ X ∧ a.block ≠ X + 1 := fun a e hl => by
    have := holdsM_lt h2 (by rw [e]) hl; omega
  have H := hid (show Md W X (X + 1) W x un ma mc ka kc from ⟨bX, bU, h1.only0 oW, h2.only0 oW, lm, lk, by omega, Only.refl _ _⟩)
  have OW := hid oW
  have BN := hid bN
  have B6 := hid b6
  have B7 := hid b7
  have OK := hid (And.intro o1 o2)
  have XW := hid (show X = w.heap.size ∧ X + 1 + 1 + 1 + 1 < W.heap.size ∧ X < W.heap.size from ⟨hX, b7.lt, bX.lt⟩)
  have R0 := hid r0
  obtain ⟨pv, hpv⟩ : ∃ p, p = validP n := ⟨_, rfl⟩
  obtain ⟨sv, hsv⟩ : ∃ s, s = validS n (bytesN n) := ⟨_, rfl⟩
  have PV := hid hpv
  have SV := hid hsv
  have V7 := hid (fun w => valid7_any n w)
  have V6 := hid (fun w => valid6_any n w)
  rw [← hpv] at V7
  rw [← hsv] at V6
  have XX := hid (show x = x from rfl)
  clear h1 h2 o1 o2 r0 bX bU bN b6 b7 oW lm lk hpv hsv
  simp only [hV, uV, nV, hC, uL, pL, sL, nL, h0, u0, p0, s0, List.cons_append, List.nil_append] at hW ⊢
  go_enter Tryz.func40, Tryz.ntmps40
  go_upto_region 1 with (fail)
  rw [← hW, ← hX]
  clear hW hX
  go_cut [] from 8 to 13 (fun wx => Md W X (X + 1) wx (x) (⟨un.ref, un.idr, pv, sv⟩) ma mc ka kc)
  case first =>
    generalize H.out = H0
    have OU := hid H0
    refine wp_region_tail (fun w' => Only [] W w') 5 8 (by kernel_rfl) rfl (Only.refl [] W).drew (fun hS => ?_)
    have LN := hid (fun w (h : Only [] W w) => hl_n8 (X + 1 + 1) n w (fun j v hj => (BN.out.only h (by simp)).cell (by simpa using hj)))
    refine wpAnyT_take 0 rfl (by kernel_rfl) (fun _ _ _ h => h) (yields_load 75 _ (by rfl) rfl ⟨X + 1 + 1, 0, none⟩ (nL n) rfl LN.out) hS ?_
    (try simp only [Act.put, List.setIfInBounds_toArray, List.set_cons_zero, List.set_cons_succ])
    refine wpAnyT_take 2 rfl (by kernel_rfl) (fun _ _ _ h => h) (yields_load 75 _ (by rfl) rfl ⟨X + 1 + 1, 0, none⟩ (nL n) rfl LN.out) hS ?_
    (try simp only [Act.put, List.setIfInBounds_toArray, List.set_cons_zero, List.set_cons_succ])
    refine wpAnyT_call 1 rfl (by kernel_rfl) (fun K hK => ?_)
    rw [if_pos (by rfl)]
    go_simp
    refine (V7.out _).mono ?_
    rintro e w3 ⟨rfl, p3⟩
    have s3 : Only [] W w3 := hS.trans p3
    refine hK.out _ _ s3 ?_
    clear hK K
    (try simp only [Act.put, List.setIfInBounds_toArray, List.set_cons_zero, List.set_cons_succ])
    refine wpAnyT_take 4 (v := ?va) rfl (by kernel_rfl) (fun _ _ _ h => h) (Or.inl ⟨by rfl, ?ya⟩) s3 ?ra
    case ya =>
      intro w hSw
      go_simp
      (try with_reducible rfl)
    (try simp only [Act.put, List.setIfInBounds_toArray, List.set_cons_zero, List.set_cons_succ])
    refine wpAnyT_call 3 rfl (by kernel_rfl) (fun K hK => ?_)
    rw [if_pos (by rfl)]
    go_simp
    refine (V6.out _).mono ?_
    rintro e w4 ⟨rfl, p4⟩
    have s4 : Only [] W w4 := s3.trans p4
    refine hK.out _ _ s4 ?_
    clear hK K
    (try simp only [Act.put, List.setIfInBounds_toArray, List.set_cons_zero, List.set_cons_succ])
    refine wpAnyT_tail _ rfl (by kernel_rfl) ?_
    simp only [List.drop_succ_cons, List.drop_zero]
    have H4 := hid (OU.out.only s4)
    go_wp2_with (first
      | (refine store_blk rfl 27 _ _ rfl (X + 1) 2 _ _ (pL pv) rfl rfl info_pps H4.out.bu (by simp [uL, pL, sL]) (one_pL _) ?_; intro w5 hB5 hO5; rw [setsU_p] at hB5)
      | (refine store_blk rfl 29 _ _ rfl (X + 1) 12 _ _ (sL sv) rfl rfl info_sps hB5 (by simp [uL, pL, sL]) (one_sL _) ?_; intro w6 hB6 hO6; rw [setsU_s] at hB6))
    go_meet
    have o6 := hO5.trans hO6
    have kl := H4.out.lists o6 (fun y hy => .inr (List.mem_singleton.1 hy))
    exact ⟨H4.out.bx.only o6 (by simp), hB6, kl.1, kl.2, H4.out.fm, H4.out.fk, H4.out.ne, H4.out.o.trans (o6.mono (by intro y _ hy; simp at hy ⊢; exact .inr hy))⟩
  case rest =>
  have H := hid hcut
  clear hcut
  clear V7 V6 BN
  go_upto_region 2 with (fail)
  go_cut [] from 14 to 18 (fun wx => Md W X (X + 1) wx (x) (⟨un.ref, un.idr, { pv with sps := sv.id }, sv⟩) ma mc ka kc)
  case first =>
    obtain ⟨u15, v15⟩ := H.out.u (i := 15) (v := .int .i64 sv.id) rfl
    obtain ⟨u3, v3⟩ := H.out.u (i := 3) (v := .int .i64 pv.sps) rfl
    go_wp2_with fail
    go_meet
    exact H.out.setU 3 (.int .i64 sv.id) rfl
  case rest =>
  have H := hid hcut
  clear hcut
  go_upto_region 3 with (fail)
  go_cut [] from 19 to 22 (fun wx => Md W X (X + 1) wx (x) (⟨un.ref % 4, un.idr, { pv with sps := sv.id }, sv⟩) ma mc ka kc)
  case first =>
    obtain ⟨u0, v0⟩ := H.out.u (i := 0) (v := .int .u8 un.ref) rfl
    have r0 := R0.out
    go_wp2_with fail
    go_meet
    exact H.out.setU 0 (.int .u8 (un.ref % 4)) rfl
  case rest =>
  have H := hid hcut
  clear hcut
  obtain ⟨u1, v1⟩ := H.out.u (i := 1) (v := .bool un.idr) rfl
  go_upto_if 24 with (fail)
  clear u1 v1
  go_cut [] from 25 to 29 (fun wx => Md W X (X + 1) wx (mS1 un x) (⟨refU un.ref un.idr, un.idr, { pv with sps := sv.id }, sv⟩) ma mc ka kc)
  case first =>
    obtain ⟨ref, idr, up, us⟩ := un
    dsimp only at *
    cases idr with
    | true =>
      obtain ⟨u0, v0⟩ := H.out.u (i := 0) (v := .int .u8 (ref % 4)) rfl
      obtain ⟨c1, d1⟩ := H.out.c (i := 1) (v := .bool x.intra) rfl
      go_wp2_with fail
      go_meet
      have H1 := H.out.setU (un' := ⟨max (ref % 4) 1, true, { pv with sps := sv.id }, sv⟩) 0 (.int .u8 (max (ref % 4) 1)) rfl
      exact H1.setX (x' := mS1 ⟨ref, true, up, us⟩ x) 1 (.bool true) rfl rfl rfl
    | false =>
      go_wp2_with fail
      go_meet
      exact H.out
  case rest =>
  have H := hid hcut
  clear hcut
  obtain ⟨u, hu⟩ : ∃ u, u = madeU un n (bytesN n) := ⟨_, rfl⟩
  have HU : (⟨refU un.ref un.idr, un.idr, { pv with sps := sv.id }, sv⟩ : UN) = u := by rw [hu, PV.out, SV.out]; rfl
  have E1 := hid (show mS1 un x = mS1 u x from by rw [hu]; rfl)
  rw [HU, E1.out] at H
  clear HU E1
  have UU := hid hu
  have OKU := hid (show unE u = 0 from by rw [hu]; exact madeU_ok un n _ R0.out)
  obtain ⟨k1, k2, k3, k4⟩ := un_ok OKU.out
  have SZ := hid (okS_size k2)
  have CD := hid (unOk_cd k2 k3)
  have RU := hid (show 0 ≤ u.ref from by rw [hu]; have := R0.out; unfold madeU refU; simp only; split <;> omega)
  clear hu k1 k2 k3 k4 PV SV R0
  obtain ⟨x1, hx'⟩ : ∃ y, y = mS1 u x := ⟨_, rfl⟩
  rw [← hx'] at H
  have E1 := hid hx'
  clear hx'
  go_upto_region 6 with (fail)
  go_cut [] from 30 to 44 (fun wx => Md W X (X + 1) wx (mS2 u x1) (u) ma mc ka kc)
  case first =>
    obtain ⟨q, hq⟩ : ∃ q, q = u.s.wd * u.s.ht := ⟨_, rfl⟩
    have g1 : IntKind.i64.wrap (u.s.wd * u.s.ht) = q := by have := SZ.out; rw [hq]; exact IntWalk.i64_in _ ⟨by omega, by omega⟩
    have G := hid (show 0 < q ∧ q ≤ 4611686018427387904 from by have := SZ.out; rw [hq]; omega)
    have QQ := hid hq
    clear hq
    have HD := hid (H.out.only (Only.refl [] wc).drew)
    refine wp_region_U (fun w' => w' = wc.drew) (fun w' => Only [X] wc.drew w') 14 16 17 (by kernel_rfl) rfl rfl (Only.refl _ _) (fun hS hS2 => ?_)
    clear hS
    generalize wc.drew = wd at *
    have hS : wd = wd := rfl
    obtain ⟨c0, d0⟩ := HD.out.c (i := 0) (v := .int .i64 x1.fi) rfl
    obtain ⟨c3, d3⟩ := HD.out.c (i := 3) (v := .int .i64 x1.pps) rfl
    obtain ⟨u19, v19⟩ := HD.out.u (i := 19) (v := .int .i64 u.s.wd) rfl
    obtain ⟨u20, v20⟩ := HD.out.u (i := 20) (v := .int .i64 u.s.ht) rfl
    have U2 := hid (fun w' (o : Only [X] wd w') => (HD.out.bu.only o (by simp)).cell (i := 2) (v := .int .i64 u.p.id) rfl)
    refine wpAnyU_take 0 (v := ?vau1) rfl (by kernel_rfl) (fun _ _ _ h => h) (Or.inl ⟨by rfl, ?yau1⟩) hS hS2 ?rau1
    case yau1 =>
      intro w hSw
      rw [hSw]
      go_simp
      (try with_reducible rfl)
    (try simp only [Act.put, List.setIfInBounds_toArray, List.set_cons_zero, List.set_cons_succ])
    refine wpAnyU_take 1 (v := ?vau2) rfl (by kernel_rfl) (fun _ _ _ h => h) (Or.inl ⟨by rfl, ?yau2⟩) hS hS2 ?rau2
    case yau2 =>
      intro w hSw
      rw [hSw]
      go_simp
      (try with_reducible rfl)
    (try simp only [Act.put, List.setIfInBounds_toArray, List.set_cons_zero, List.set_cons_succ])
    refine wpAnyU_take 2 (v := ?vau3) rfl (by kernel_rfl) (fun _ _ _ h => h) (Or.inl ⟨by rfl, ?yau3⟩) hS hS2 ?rau3
    case yau3 =>
      intro w hSw
      rw [hSw]
      go_simp
      (try with_reducible rfl)
    (try simp only [Act.put, List.setIfInBounds_toArray, List.set_cons_zero, List.set_cons_succ])
    refine wpAnyU_take 3 (v := ?vau4) rfl (by kernel_rfl) (fun _ _ _ h => h) (Or.inl ⟨by rfl, ?yau4⟩) hS hS2 ?rau4
    case yau4 =>
      intro w hSw
      rw [hSw]
      go_simp
      (try with_reducible rfl)
    (try simp only [Act.put, List.setIfInBounds_toArray, List.set_cons_zero, List.set_cons_succ])
    refine wpAnyU_take 4 (v := ?vau5) rfl (by kernel_rfl) (fun _ _ _ h => h) (Or.inl ⟨by rfl, ?yau5⟩) hS hS2 ?rau5
    case yau5 =>
      intro w hSw
      rw [hSw]
      go_simp
      (try with_reducible rfl)
    (try simp only [Act.put, List.setIfInBounds_toArray, List.set_cons_zero, List.set_cons_succ])
    refine wpAnyU_take 5 (v := ?vau6) rfl (by kernel_rfl) (fun _ _ _ h => h) (Or.inl ⟨by rfl, ?yau6⟩) hS hS2 ?rau6
    case yau6 =>
      intro w hSw
      rw [hSw]
      go_simp
      (try with_reducible rfl)
    (try simp only [Act.put, List.setIfInBounds_toArray, List.set_cons_zero, List.set_cons_succ])
    refine wpAnyU_take 6 (v := ?vau7) rfl (by kernel_rfl) (fun _ _ _ h => h) (Or.inl ⟨by rfl, ?yau7⟩) hS hS2 ?rau7
    case yau7 =>
      intro w hSw
      rw [hSw]
      go_simp
      (try with_reducible rfl)
    (try simp only [Act.put, List.setIfInBounds_toArray, List.set_cons_zero, List.set_cons_succ])
    refine wpAnyU_take 7 (v := ?vau8) rfl (by kernel_rfl) (fun _ _ _ h => h) (Or.inl ⟨by rfl, ?yau8⟩) hS hS2 ?rau8
    case yau8 =>
      intro w hSw
      rw [hSw]
      go_simp
      (try with_reducible rfl)
    (try simp only [Act.put, List.setIfInBounds_toArray, List.set_cons_zero, List.set_cons_succ])
    refine wpAnyU_take 8 (v := ?vau9) rfl (by kernel_rfl) (fun _ _ _ h => h) (Or.inl ⟨by rfl, ?yau9⟩) hS hS2 ?rau9
    case yau9 =>
      intro w hSw
      rw [hSw]
      go_simp
      (try with_reducible rfl)
    (try simp only [Act.put, List.setIfInBounds_toArray, List.set_cons_zero, List.set_cons_succ])
    refine wpAnyU_late 10 (v := ?vau10) rfl (by kernel_rfl) (fun _ _ _ h => h) (Or.inl ⟨by rfl, ?yau10⟩) hS hS2 ?rau10
    case yau10 =>
      intro w hSw
      have u2 := U2.out w hSw
      go_simp
      (try with_reducible rfl)
    (try simp only [Act.put, List.setIfInBounds_toArray, List.set_cons_zero, List.set_cons_succ])
    refine wpAnyU_late 11 (v := ?vau11) rfl (by kernel_rfl) (fun _ _ _ h => h) (Or.inl ⟨by rfl, ?yau11⟩) hS hS2 ?rau11
    case yau11 =>
      intro w hSw
      have u2 := U2.out w hSw
      go_simp
      (try with_reducible rfl)
    (try simp only [Act.put, List.setIfInBounds_toArray, List.set_cons_zero, List.set_cons_succ])
    refine wpAnyU_late 12 (v := ?vau12) rfl (by kernel_rfl) (fun _ _ _ h => h) (Or.inl ⟨by rfl, ?yau12⟩) hS hS2 ?rau12
    case yau12 =>
      intro w hSw
      have u2 := U2.out w hSw
      go_simp
      (try with_reducible rfl)
    (try simp only [Act.put, List.setIfInBounds_toArray, List.set_cons_zero, List.set_cons_succ])
    refine wpAnyU_one 9 rfl (by kernel_rfl) (fun K hK => ?_)
    rw [if_pos (by rfl)]
    go_simp
    refine (hmod_any x1.fi q G.out.1 G.out.2 _).mono ?_
    rintro e w9 ⟨rfl, hw9⟩
    rw [hw9]
    clear hw9
    refine hK.out _ _ (fun _ => hS) (fun _ => hS2) ?_
    clear hK K
    (try simp only [Act.put, List.setIfInBounds_toArray, List.set_cons_zero, List.set_cons_succ])
    refine wpAnyU_one 13 rfl (by kernel_rfl) (fun K hK => ?_)
    rw [if_pos (by rfl)]
    go_simp
    refine hK.out _ _ (fun _ => hS) (fun _ => hS2) ?_
    clear hK K
    (try simp only [Act.put, List.setIfInBounds_toArray, List.set_cons_zero, List.set_cons_succ])
    refine wpAnyU_one 14 rfl (by kernel_rfl) (fun K hK => ?_)
    rw [if_pos (by rfl)]
    go_simp
    refine hK.out _ _ (fun h => absurd h (by decide +kernel)) (fun _ => hS2.setCell (.inl (by simp)) _) ?_
    clear hK K
    (try simp only [Act.put, List.setIfInBounds_toArray, List.set_cons_zero, List.set_cons_succ])
    refine wpAnyU_one 15 rfl (by kernel_rfl) (fun K hK => ?_)
    rw [if_pos (by rfl)]
    go_simp
    refine hK.out _ _ (fun h => absurd h (by decide +kernel)) (fun _ => hS2.setCell (.inl (by simp)) _) ?_
    clear hK K
    (try simp only [Act.put, List.setIfInBounds_toArray, List.set_cons_zero, List.set_cons_succ])
    refine wpAnyU_one 16 rfl (by kernel_rfl) (fun K hK => ?_)
    rw [if_pos (by rfl)]
    go_simp
    refine hK.out _ _ (fun h => absurd h (by decide +kernel)) (fun h => absurd h (by decide +kernel)) ?_
    clear hK K
    (try simp only [Act.put, List.setIfInBounds_toArray, List.set_cons_zero, List.set_cons_succ])
    refine wpAnyU_done (by kernel_rfl) ?_ _
    go_wp2_with fail
    go_meet
    have H1 := HD.out.setX (x' := { x1 with fi := x1.fi % q }) 0 (.int .i64 (x1.fi % q)) rfl rfl rfl
    have H2 := H1.setX (x' := { x1 with fi := x1.fi % q, pps := u.p.id }) 3 (.int .i64 u.p.id) rfl rfl rfl
    have e : mS2 u x1 = { x1 with fi := x1.fi % q, pps := u.p.id } := by unfold mS2; rw [QQ.out]
    rw [e]
    exact H2
  case rest =>
  have H := hid hcut
  clear hcut
  obtain ⟨x2, hx'⟩ : ∃ y, y = mS2 u x1 := ⟨_, rfl⟩
  rw [← hx'] at H
  have E2 := hid hx'
  clear hx'
  go_upto_region 7 with (fail)
  go_cut [] from 45 to 62 (fun wx => Md W X (X + 1) wx (mS3 u x2) (u) ma mc ka kc)
  case first =>
    obtain ⟨nf, hnf⟩ : ∃ k : Nat, u.s.fb = (k : Int) := ⟨u.s.fb.toNat, by have := CD.out.1.1; omega⟩
    obtain ⟨np, hnp⟩ : ∃ k : Nat, u.s.pb = (k : Int) := ⟨u.s.pb.toNat, by have := CD.out.2.1.1; omega⟩
    have f16 := pow16 (n := nf) (by have := CD.out.1.2; omega)
    have p16 := pow16 (n := np) (by have := CD.out.2.1.2; omega)
    have hf : wrap64 (2 ^ nf) = 2 ^ nf := wrap_in (2 ^ nf) (by omega) (by omega)
    have hp : wrap64 (2 ^ np) = 2 ^ np := wrap_in (2 ^ np) (by omega) (by omega)
    have GF := hid (show (0 : Int) < 2 ^ nf ∧ (2 : Int) ^ nf ≤ 4611686018427387904 from by omega)
    have GP := hid (show (0 : Int) < 2 ^ np ∧ (2 : Int) ^ np ≤ 4611686018427387904 from by omega)
    have EE := hid (show mS3 u x2 = { x2 with fr := x2.fr % 2 ^ nf, poc := x2.poc % 2 ^ np } from by unfold mS3; rw [hnf, hnp, Int.toNat_natCast, Int.toNat_natCast])
    have n0 : (0 : Int) ≤ (nf : Int) := by omega
    have n1 : (0 : Int) ≤ (np : Int) := by omega
    have n2 : (nf : Int) ≤ 16 := by have := CD.out.1.2; omega
    have n3 : (np : Int) ≤ 16 := by have := CD.out.2.1.2; omega
    have kf1 : IntKind.u64.wrap (nf : Int) = (nf : Int) := IntWalk.u64_in _ ⟨by omega, by omega⟩
    have kp1 : IntKind.u64.wrap (np : Int) = (np : Int) := IntWalk.u64_in _ ⟨by omega, by omega⟩
    have kf2 : min nf 64 = nf := by omega
    have kp2 : min np 64 = np := by omega
    have kf3 : IntKind.i64.wrap (2 ^ nf) = 2 ^ nf := IntWalk.i64_in _ ⟨by omega, by omega⟩
    have kp3 : IntKind.i64.wrap (2 ^ np) = 2 ^ np := IntWalk.i64_in _ ⟨by omega, by omega⟩
    have NF := hid hnf
    have NP := hid hnp
    clear hnf hnp f16 p16
    have HD := hid (H.out.only (Only.refl [] wc).drew)
    refine wp_region_U (fun w' => w' = wc.drew) (fun w' => Only [X] wc.drew w') 17 19 20 (by kernel_rfl) rfl rfl (Only.refl _ _) (fun hS hS2 => ?_)
    clear hS
    generalize wc.drew = wd at *
    have hS : wd = wd := rfl
    obtain ⟨c4, d4⟩ := HD.out.c (i := 4) (v := .int .i64 x2.fr) rfl
    obtain ⟨c6, d6⟩ := HD.out.c (i := 6) (v := .int .i64 x2.poc) rfl
    obtain ⟨u16, v16⟩ := HD.out.u (i := 16) (v := .int .i64 (nf : Int)) (by rw [← NF.out]; rfl)
    obtain ⟨u17, v17⟩ := HD.out.u (i := 17) (v := .int .i64 (np : Int)) (by rw [← NP.out]; rfl)
    refine wpAnyU_take 0 (v := ?vau13) rfl (by kernel_rfl) (fun _ _ _ h => h) (Or.inl ⟨by rfl, ?yau13⟩) hS hS2 ?rau13
    case yau13 =>
      intro w hSw
      rw [hSw]
      go_simp
      (try with_reducible rfl)
    (try simp only [Act.put, List.setIfInBounds_toArray, List.set_cons_zero, List.set_cons_succ])
    refine wpAnyU_take 1 (v := ?vau14) rfl (by kernel_rfl) (fun _ _ _ h => h) (Or.inl ⟨by rfl, ?yau14⟩) hS hS2 ?rau14
    case yau14 =>
      intro w hSw
      rw [hSw]
      go_simp
      (try with_reducible rfl)
    (try simp only [Act.put, List.setIfInBounds_toArray, List.set_cons_zero, List.set_cons_succ])
    refine wpAnyU_take 2 (v := ?vau15) rfl (by kernel_rfl) (fun _ _ _ h => h) (Or.inl ⟨by rfl, ?yau15⟩) hS hS2 ?rau15
    case yau15 =>
      intro w hSw
      rw [hSw]
      go_simp
      (try with_reducible rfl)
    (try simp only [Act.put, List.setIfInBounds_toArray, List.set_cons_zero, List.set_cons_succ])
    refine wpAnyU_take 3 (v := ?vau16) rfl (by kernel_rfl) (fun _ _ _ h => h) (Or.inl ⟨by rfl, ?yau16⟩) hS hS2 ?rau16
    case yau16 =>
      intro w hSw
      rw [hSw]
      go_simp
      (try with_reducible rfl)
    (try simp only [Act.put, List.setIfInBounds_toArray, List.set_cons_zero, List.set_cons_succ])
    refine wpAnyU_take 4 (v := ?vau17) rfl (by kernel_rfl) (fun _ _ _ h => h) (Or.inl ⟨by rfl, ?yau17⟩) hS hS2 ?rau17
    case yau17 =>
      intro w hSw
      rw [hSw]
      go_simp
      (try with_reducible rfl)
    (try simp only [Act.put, List.setIfInBounds_toArray, List.set_cons_zero, List.set_cons_succ])
    refine wpAnyU_take 5 (v := ?vau18) rfl (by kernel_rfl) (fun _ _ _ h => h) (Or.inl ⟨by rfl, ?yau18⟩) hS hS2 ?rau18
    case yau18 =>
      intro w hSw
      rw [hSw]
      go_simp
      (try with_reducible rfl)
    (try simp only [Act.put, List.setIfInBounds_toArray, List.set_cons_zero, List.set_cons_succ])
    refine wpAnyU_take 6 (v := ?vau19) rfl (by kernel_rfl) (fun _ _ _ h => h) (Or.inl ⟨by rfl, ?yau19⟩) hS hS2 ?rau19
    case yau19 =>
      intro w hSw
      rw [hSw]
      go_simp
      (try with_reducible rfl)
    (try simp only [Act.put, List.setIfInBounds_toArray, List.set_cons_zero, List.set_cons_succ])
    refine wpAnyU_take 8 (v := ?vau20) rfl (by kernel_rfl) (fun _ _ _ h => h) (Or.inl ⟨by rfl, ?yau20⟩) hS hS2 ?rau20
    case yau20 =>
      intro w hSw
      rw [hSw]
      go_simp
      (try with_reducible rfl)
    (try simp only [Act.put, List.setIfInBounds_toArray, List.set_cons_zero, List.set_cons_succ])
    refine wpAnyU_take 9 (v := ?vau21) rfl (by kernel_rfl) (fun _ _ _ h => h) (Or.inl ⟨by rfl, ?yau21⟩) hS hS2 ?rau21
    case yau21 =>
      intro w hSw
      rw [hSw]
      go_simp
      (try with_reducible rfl)
    (try simp only [Act.put, List.setIfInBounds_toArray, List.set_cons_zero, List.set_cons_succ])
    refine wpAnyU_late 10 (v := ?vau22) rfl (by kernel_rfl) (fun _ _ _ h => h) (Or.inl ⟨by rfl, ?yau22⟩) hS hS2 ?rau22
    case yau22 =>
      intro w hSw
      skip
      go_simp
      (try with_reducible rfl)
    (try simp only [Act.put, List.setIfInBounds_toArray, List.set_cons_zero, List.set_cons_succ])
    refine wpAnyU_take 11 (v := ?vau23) rfl (by kernel_rfl) (fun _ _ _ h => h) (Or.inl ⟨by rfl, ?yau23⟩) hS hS2 ?rau23
    case yau23 =>
      intro w hSw
      rw [hSw]
      go_simp
      (try with_reducible rfl)
    (try simp only [Act.put, List.setIfInBounds_toArray, List.set_cons_zero, List.set_cons_succ])
    refine wpAnyU_take 12 (v := ?vau24) rfl (by kernel_rfl) (fun _ _ _ h => h) (Or.inl ⟨by rfl, ?yau24⟩) hS hS2 ?rau24
    case yau24 =>
      intro w hSw
      rw [hSw]
      go_simp
      (try with_reducible rfl)
    (try simp only [Act.put, List.setIfInBounds_toArray, List.set_cons_zero, List.set_cons_succ])
    refine wpAnyU_take 13 (v := ?vau25) rfl (by kernel_rfl) (fun _ _ _ h => h) (Or.inl ⟨by rfl, ?yau25⟩) hS hS2 ?rau25
    case yau25 =>
      intro w hSw
      rw [hSw]
      go_simp
      (try with_reducible rfl)
    (try simp only [Act.put, List.setIfInBounds_toArray, List.set_cons_zero, List.set_cons_succ])
    refine wpAnyU_take 14 (v := ?vau26) rfl (by kernel_rfl) (fun _ _ _ h => h) (Or.inl ⟨by rfl, ?yau26⟩) hS hS2 ?rau26
    case yau26 =>
      intro w hSw
      rw [hSw]
      go_simp
      (try with_reducible rfl)
    (try simp only [Act.put, List.setIfInBounds_toArray, List.set_cons_zero, List.set_cons_succ])
    refine wpAnyU_one 7 rfl (by kernel_rfl) (fun K hK => ?_)
    rw [if_pos (by rfl)]
    go_simp
    refine (hmod_any x2.fr (2 ^ nf) GF.out.1 GF.out.2 _).mono ?_
    rintro e w9 ⟨rfl, hw9⟩
    rw [hw9]
    clear hw9
    refine hK.out _ _ (fun _ => hS) (fun _ => hS2) ?_
    clear hK K
    (try simp only [Act.put, List.setIfInBounds_toArray, List.set_cons_zero, List.set_cons_succ])
    refine wpAnyU_take 16 (v := ?vau27) rfl (by kernel_rfl) (fun _ _ _ h => h) (Or.inl ⟨by rfl, ?yau27⟩) hS hS2 ?rau27
    case yau27 =>
      intro w hSw
      rw [hSw]
      go_simp
      (try with_reducible rfl)
    (try simp only [Act.put, List.setIfInBounds_toArray, List.set_cons_zero, List.set_cons_succ])
    refine wpAnyU_one 15 rfl (by kernel_rfl) (fun K hK => ?_)
    rw [if_pos (by rfl)]
    go_simp
    refine (hmod_any x2.poc (2 ^ np) GP.out.1 GP.out.2 _).mono ?_
    rintro e w9 ⟨rfl, hw9⟩
    rw [hw9]
    clear hw9
    refine hK.out _ _ (fun _ => hS) (fun _ => hS2) ?_
    clear hK K
    (try simp only [Act.put, List.setIfInBounds_toArray, List.set_cons_zero, List.set_cons_succ])
    refine wpAnyU_one 17 rfl (by kernel_rfl) (fun K hK => ?_)
    rw [if_pos (by rfl)]
    go_simp
    refine hK.out _ _ (fun h => absurd h (by decide +kernel)) (fun _ => hS2.setCell (.inl (by simp)) _) ?_
    clear hK K
    (try simp only [Act.put, List.setIfInBounds_toArray, List.set_cons_zero, List.set_cons_succ])
    refine wpAnyU_one 18 rfl (by kernel_rfl) (fun K hK => ?_)
    rw [if_pos (by rfl)]
    go_simp
    refine hK.out _ _ (fun h => absurd h (by decide +kernel)) (fun _ => hS2.setCell (.inl (by simp)) _) ?_
    clear hK K
    (try simp only [Act.put, List.setIfInBounds_toArray, List.set_cons_zero, List.set_cons_succ])
    refine wpAnyU_one 19 rfl (by kernel_rfl) (fun K hK => ?_)
    rw [if_pos (by rfl)]
    go_simp
    refine hK.out _ _ (fun h => absurd h (by decide +kernel)) (fun h => absurd h (by decide +kernel)) ?_
    clear hK K
    (try simp only [Act.put, List.setIfInBounds_toArray, List.set_cons_zero, List.set_cons_succ])
    refine wpAnyU_done (by kernel_rfl) ?_ _
    go_wp2_with fail
    go_meet
    have H1 := HD.out.setX (x' := { x2 with fr := x2.fr % 2 ^ nf }) 4 (.int .i64 (x2.fr % 2 ^ nf)) rfl rfl rfl
    have H2 := H1.setX (x' := { x2 with fr := x2.fr % 2 ^ nf, poc := x2.poc % 2 ^ np }) 6 (.int .i64 (x2.poc % 2 ^ np)) rfl rfl rfl
    rw [EE.out]
    exact H2
  case rest =>
  have H := hid hcut
  clear hcut
  obtain ⟨x3, hx'⟩ : ∃ y, y = mS3 u x2 := ⟨_, rfl⟩
  rw [← hx'] at H
  have E3 := hid hx'
  clear hx'
  go_upto_region 8 with (fail)
  go_cut [] from 63 to 66 (fun wx => Md W X (X + 1) wx (mS4 x3) (u) ma mc ka kc)
  case first =>
    obtain ⟨c5, d5⟩ := H.out.c (i := 5) (v := .int .i64 x3.idr) rfl
    go_wp2_with fail
    refine (hmod_any x3.idr 65536 (by omega) (by omega) _).mono ?_
    rintro e w9 ⟨rfl, hw9⟩
    rw [hw9]
    go_wp2_with fail
    go_meet
    exact H.out.setX 5 (.int .i64 (x3.idr % 65536)) rfl rfl rfl
  case rest =>
  have H := hid hcut
  clear hcut
  obtain ⟨x4, hx'⟩ : ∃ y, y = mS4 x3 := ⟨_, rfl⟩
  rw [← hx'] at H
  have E4 := hid hx'
  clear hx'
  obtain ⟨u1, v1⟩ := H.out.u (i := 1) (v := .bool u.idr) rfl
  go_upto_if 69 with (fail)
  clear u1 v1
  go_cut [] from 67 to 72 (fun wx => Md W X (X + 1) wx (mS5 u x4) (u) ma mc ka kc)
  case first =>
    have e5 : mS5 u x4 = { x4 with idr := if u.idr = true then x4.idr else 0, f0 := u.idr && x4.f0, f1 := u.idr && x4.f1 } := rfl
    cases hi : u.idr with
    | true =>
      rw [hi] at e5
      have E5 := hid e5
      clear e5
      go_wp2_with fail
      go_meet
      rw [E5.out]
      exact H.out
    | false =>
      rw [hi] at e5
      have E5 := hid e5
      obtain ⟨c5, d5⟩ := H.out.c (i := 5) (v := .int .i64 x4.idr) rfl
      obtain ⟨c11, d11⟩ := H.out.c (i := 11) (v := .bool x4.f0) rfl
      obtain ⟨c12, d12⟩ := H.out.c (i := 12) (v := .bool x4.f1) rfl
      clear hi e5
      go_wp2_with fail
      go_meet
      have H1 := H.out.setX (x' := { x4 with idr := 0 }) 5 (.int .i64 0) rfl rfl rfl
      have H2 := H1.setX (x' := { x4 with idr := 0, f0 := false }) 11 (.bool false) rfl rfl rfl
      rw [E5.out]
      exact H2.setX 12 (.bool false) rfl rfl rfl
  case rest =>
  have H := hid hcut
  clear hcut
  obtain ⟨x5, hx'⟩ : ∃ y, y = mS5 u x4 := ⟨_, rfl⟩
  rw [← hx'] at H
  have E5 := hid hx'
  clear hx'
  go_upto_region 11 with (fail)
  go_cut [] from 73 to 88 (fun wx => Md W X (X + 1) wx (mS6 x5) (u) ma mc ka kc)
  case first =>
    obtain ⟨c7, d7⟩ := H.out.c (i := 7) (v := .bool x5.over) rfl
    obtain ⟨c9, d9⟩ := H.out.c (i := 9) (v := .bool x5.listed) rfl
    obtain ⟨c1, d1⟩ := H.out.c (i := 1) (v := .bool x5.intra) rfl
    have e6 : mS6 x5 = { x5 with over := x5.over && !x5.intra, listed := x5.listed && !x5.intra } := rfl
    have HH := fun (a b : Bool) => (H.out.setX (x' := { x5 with over := a }) 7 (.bool a) rfl rfl rfl).setX (x' := { x5 with over := a, listed := b }) 9 (.bool b) rfl rfl rfl
    have E6 := hid e6
    have HK := hid HH
    clear e6 HH
    generalize x5.over = ov at *
    generalize x5.listed = li at *
    generalize x5.intra = nt at *
    cases ov <;> cases li
    all_goals
      go_wp2_with fail
      go_meet
      rw [E6.out]
      exact HK.out _ _
  case rest =>
  have H := hid hcut
  clear hcut
  obtain ⟨x6, hx'⟩ : ∃ y, y = mS6 x5 := ⟨_, rfl⟩
  rw [← hx'] at H
  have E6 := hid hx'
  clear hx'
  go_upto_region 12 with (fail)
  go_cut [] from 89 to 93 (fun wx => Md W X (X + 1) wx (mS7 x6) (u) ma mc ka kc)
  case first =>
    obtain ⟨c8, d8⟩ := H.out.c (i := 8) (v := .int .i64 x6.refs) rfl
    have q1 := Int.emod_nonneg x6.refs (show (32 : Int) ≠ 0 by omega)
    have q2 := Int.emod_lt_of_pos x6.refs (show (0 : Int) < 32 by omega)
    have g1 : IntKind.i64.wrap (1 + x6.refs % 32) = 1 + x6.refs % 32 := IntWalk.i64_in _ ⟨by omega, by omega⟩
    go_wp2_with fail
    refine (hmod_any x6.refs 32 (by omega) (by omega) _).mono ?_
    rintro e w9 ⟨rfl, hw9⟩
    rw [hw9]
    go_wp2_with fail
    go_meet
    exact H.out.setX 8 (.int .i64 (1 + x6.refs % 32)) rfl rfl rfl
  case rest =>
  have H := hid hcut
  clear hcut
  obtain ⟨x7, hx'⟩ : ∃ y, y = mS7 x6 := ⟨_, rfl⟩
  rw [← hx'] at H
  have E7 := hid hx'
  clear hx'
  obtain ⟨c7, d7⟩ := H.out.c (i := 7) (v := .bool x7.over) rfl
  go_upto_if 96 with (fail)
  clear c7 d7
  go_cut [] from 94 to 97 (fun wx => Md W X (X + 1) wx (mS8 x7) (u) ma mc ka kc)
  case first =>
    cases hi : x7.over with
    | true =>
      have E8 := hid (show mS8 x7 = x7 from by rw [HV.eq_iff]; simp [mS8, hi])
      clear hi
      go_wp2_with fail
      go_meet
      rw [E8.out]
      exact H.out
    | false =>
      have E8 := hid (show mS8 x7 = { x7 with refs := 0 } from by rw [HV.eq_iff]; simp [mS8, hi])
      obtain ⟨c8, d8⟩ := H.out.c (i := 8) (v := .int .i64 x7.refs) rfl
      clear hi
      go_wp2_with fail
      go_meet
      rw [E8.out]
      exact H.out.setX 8 (.int .i64 0) rfl rfl rfl
  case rest =>
  have H := hid hcut
  clear hcut
  obtain ⟨x8, hx'⟩ : ∃ y, y = mS8 x7 := ⟨_, rfl⟩
  rw [← hx'] at H
  have E8 := hid hx'
  clear hx'
  go_upto_region 15 with (fail)
  go_cut [] from 98 to 110 (fun wx => Md W X (X + 1) wx (mS9 u x8) (u) ma mc ka kc)
  case first =>
    obtain ⟨c13, d13⟩ := H.out.c (i := 13) (v := .bool x8.ad) rfl
    obtain ⟨u1, v1⟩ := H.out.u (i := 1) (v := .bool u.idr) rfl
    obtain ⟨u0, v0⟩ := H.out.u (i := 0) (v := .int .u8 u.ref) rfl
    have e9 : mS9 u x8 = { x8 with ad := x8.ad && (!u.idr && decide (0 < u.ref)) } := rfl
    have HK := hid (fun (a : Bool) => H.out.setX (x' := { x8 with ad := a }) 13 (.bool a) rfl rfl rfl)
    have E9 := hid e9
    clear e9
    generalize x8.ad = a at *
    generalize u.idr = b at *
    generalize u.ref = r at *
    cases a <;> cases b
    all_goals
      go_wp2_with fail
      go_meet
      rw [E9.out]
      exact HK.out _
  case rest =>
  have H := hid hcut
  clear hcut
  obtain ⟨x9, hx'⟩ : ∃ y, y = mS9 u x8 := ⟨_, rfl⟩
  rw [← hx'] at H
  have E9 := hid hx'
  clear hx'
  go_upto_region 16 with (fail)
  go_cut [] from 111 to 122 (fun wx => ∃ ma' mc' ka' kc', Md W X (X + 1) wx (mS10 x9) u ma' mc' ka' kc' ∧ ∀ g, g ∈ ownOf (.slice ma' (mS10 x9).mods.length mc') ∨ g ∈ ownOf (.slice ka' (mS10 x9).marks.length kc') → W.heap.size ≤ g)
  case first =>
    have OM := hid (show OksM x9.mods ∧ OksM x9.marks from by
      rw [E9.out, E8.out, E7.out, E6.out, E5.out, E4.out, E3.out, E2.out, E1.out]
      exact OK.out)
    have HD := hid (H.out.only (Only.refl [] wc).drew)
    refine wp_region_tail (fun w' => Only [] wc.drew w') 11 14 (by kernel_rfl) rfl (Only.refl _ _) (fun hS => ?_)
    clear hS
    generalize wc.drew = wd at *
    have hS := Only.refl [] wd
    have XC := hid (fun w' (o : Only [] wd w') => And.intro ((HD.out.bx.only o (by simp)).cell (i := 9) (v := .bool x9.listed) rfl) (And.intro ((HD.out.bx.only o (by simp)).cell (i := 10) (v := .slice ma x9.mods.length mc) rfl) (And.intro ((HD.out.bx.only o (by simp)).cell (i := 13) (v := .bool x9.ad) rfl) ((HD.out.bx.only o (by simp)).cell (i := 14) (v := .slice ka x9.marks.length kc) rfl))))
    refine wpAnyT_take 0 (v := ?vat1) rfl (by kernel_rfl) (fun _ _ _ h => h) (Or.inl ⟨by rfl, ?yat1⟩) hS ?rat1
    case yat1 =>
      intro w hSw
      obtain ⟨hc1, hc2, hc3, hc4⟩ := XC.out w hSw
      go_simp
      (try with_reducible rfl)
    (try simp only [Act.put, List.setIfInBounds_toArray, List.set_cons_zero, List.set_cons_succ])
    refine wpAnyT_take 1 (v := ?vat2) rfl (by kernel_rfl) (fun _ _ _ h => h) (Or.inl ⟨by rfl, ?yat2⟩) hS ?rat2
    case yat2 =>
      intro w hSw
      obtain ⟨hc1, hc2, hc3, hc4⟩ := XC.out w hSw
      go_simp
      (try with_reducible rfl)
    (try simp only [Act.put, List.setIfInBounds_toArray, List.set_cons_zero, List.set_cons_succ])
    refine wpAnyT_take 2 (v := ?vat3) rfl (by kernel_rfl) (fun _ _ _ h => h) (Or.inl ⟨by rfl, ?yat3⟩) hS ?rat3
    case yat3 =>
      intro w hSw
      obtain ⟨hc1, hc2, hc3, hc4⟩ := XC.out w hSw
      go_simp
      (try with_reducible rfl)
    (try simp only [Act.put, List.setIfInBounds_toArray, List.set_cons_zero, List.set_cons_succ])
    refine wpAnyT_take 3 (v := ?vat4) rfl (by kernel_rfl) (fun _ _ _ h => h) (Or.inl ⟨by rfl, ?yat4⟩) hS ?rat4
    case yat4 =>
      intro w hSw
      obtain ⟨hc1, hc2, hc3, hc4⟩ := XC.out w hSw
      go_simp
      (try with_reducible rfl)
    (try simp only [Act.put, List.setIfInBounds_toArray, List.set_cons_zero, List.set_cons_succ])
    refine wpAnyT_take 5 (v := ?vat5) rfl (by kernel_rfl) (fun _ _ _ h => h) (Or.inl ⟨by rfl, ?yat5⟩) hS ?rat5
    case yat5 =>
      intro w hSw
      obtain ⟨hc1, hc2, hc3, hc4⟩ := XC.out w hSw
      go_simp
      (try with_reducible rfl)
    (try simp only [Act.put, List.setIfInBounds_toArray, List.set_cons_zero, List.set_cons_succ])
    refine wpAnyT_take 6 (v := ?vat6) rfl (by kernel_rfl) (fun _ _ _ h => h) (Or.inl ⟨by rfl, ?yat6⟩) hS ?rat6
    case yat6 =>
      intro w hSw
      obtain ⟨hc1, hc2, hc3, hc4⟩ := XC.out w hSw
      go_simp
      (try with_reducible rfl)
    (try simp only [Act.put, List.setIfInBounds_toArray, List.set_cons_zero, List.set_cons_succ])
    refine wpAnyT_take 7 (v := ?vat7) rfl (by kernel_rfl) (fun _ _ _ h => h) (Or.inl ⟨by rfl, ?yat7⟩) hS ?rat7
    case yat7 =>
      intro w hSw
      obtain ⟨hc1, hc2, hc3, hc4⟩ := XC.out w hSw
      go_simp
      (try with_reducible rfl)
    (try simp only [Act.put, List.setIfInBounds_toArray, List.set_cons_zero, List.set_cons_succ])
    refine wpAnyT_take 8 (v := ?vat8) rfl (by kernel_rfl) (fun _ _ _ h => h) (Or.inl ⟨by rfl, ?yat8⟩) hS ?rat8
    case yat8 =>
      intro w hSw
      obtain ⟨hc1, hc2, hc3, hc4⟩ := XC.out w hSw
      go_simp
      (try with_reducible rfl)
    (try simp only [Act.put, List.setIfInBounds_toArray, List.set_cons_zero, List.set_cons_succ])
    refine wpAnyT_call 4 rfl (by kernel_rfl) (fun K hK => ?_)
    rw [if_pos (by rfl)]
    go_simp
    refine (listed_any x9.listed false _ x9.mods wd HD.out.hm OM.out.1).mono ?_
    rintro e w3 ⟨s1, rfl, r1, p3, f1⟩
    have s3 : Only [] wd w3 := p3
    refine hK.out _ _ s3 ?_
    clear hK K p3
    (try simp only [Act.put, List.setIfInBounds_toArray, List.set_cons_zero, List.set_cons_succ])
    refine wpAnyT_take 10 (v := ?vat9) rfl (by kernel_rfl) (fun _ _ _ h => h) (Or.inl ⟨by rfl, ?yat9⟩) s3 ?rat9
    case yat9 =>
      intro w hSw
      obtain ⟨hc1, hc2, hc3, hc4⟩ := XC.out w hSw
      go_simp
      (try with_reducible rfl)
    (try simp only [Act.put, List.setIfInBounds_toArray, List.set_cons_zero, List.set_cons_succ])
    refine wpAnyT_call 9 rfl (by kernel_rfl) (fun K hK => ?_)
    rw [if_pos (by rfl)]
    go_simp
    refine (listed_any x9.ad true _ x9.marks w3 (HD.out.hk.only0 s3) OM.out.2).mono ?_
    rintro e w4 ⟨s2, rfl, r2, p4, f2⟩
    have s4 : Only [] wd w4 := s3.trans p4
    refine hK.out _ _ s4 ?_
    clear hK K
    (try simp only [Act.put, List.setIfInBounds_toArray, List.set_cons_zero, List.set_cons_succ])
    obtain ⟨a1, k1, e1⟩ := holdsM_slice r1.holds
    obtain ⟨a2, k2, e2⟩ := holdsM_slice r2.holds
    subst e1 e2
    refine wpAnyT_tail _ rfl (by kernel_rfl) ?_
    simp only [List.drop_succ_cons, List.drop_zero]
    have H4 := hid (HD.out.only s4)
    have y10 := H4.out.bx.cell (i := 10) (v := .slice ma x9.mods.length mc) rfl
    have z10 := H4.out.bx.frozen 10
    have y14 := H4.out.bx.cell (i := 14) (v := .slice ka x9.marks.length kc) rfl
    have z14 := H4.out.bx.frozen 14
    have R1 := hid (r1.holds.only0 p4)
    have R2 := hid r2.holds
    have F1 := hid (fun g h => (Nat.le_trans HD.out.o.size (f1 g h) : W.heap.size ≤ g))
    have F2 := hid (fun g h => (Nat.le_trans HD.out.o.size (Nat.le_trans s3.size (f2 g h)) : W.heap.size ≤ g))
    have WX := XW.out.2
    clear r1 r2 f1 f2 p4 s3 s4 hS
    go_wp2_with fail
    go_meet
    have ox : Only [X] w4 ((w4.setCell ⟨X, 10, none⟩ (.slice a1 (cmdsM x9.listed false x9.mods).length k1)).setCell ⟨X, 14, none⟩ (.slice a2 (cmdsM x9.ad true x9.marks).length k2)) := ((Only.refl [X] _).setCell (.inl (by simp)) _).setCell (.inl (by simp)) _
    have g1 : ∀ a, a1 = some a → a.block ≠ X ∧ a.block ≠ X + 1 := fun a e => by
      have := F1.out a.block (by rw [e]; simp [ownOf, Value.ownBlock]); omega
    have g2 : ∀ a, a2 = some a → a.block ≠ X ∧ a.block ≠ X + 1 := fun a e => by
      have := F2.out a.block (by rw [e]; simp [ownOf, Value.ownBlock]); omega
    refine ⟨a1, k1, a2, k2, ⟨(H4.out.bx.set 10 (.slice a1 (cmdsM x9.listed false x9.mods).length k1)).set 14 (.slice a2 (cmdsM x9.ad true x9.marks).length k2), H4.out.bu.only ox (by simp),
      R1.out.only2 ox (fun ad n c e hl hm => (g1 ad (by cases e; rfl)).1 (by simpa using hm)), R2.out.only2 ox (fun ad n c e hl hm => (g2 ad (by cases e; rfl)).1 (by simpa using hm)),
      fun a e _ => g1 a e, fun a e _ => g2 a e, H4.out.ne, H4.out.o.trans (ox.mono (by intro y _ hy; simp at hy ⊢; exact .inl hy))⟩, ?_⟩
    rintro g (h | h)
    · exact F1.out g h
    · exact F2.out g h
  case rest =>
  obtain ⟨ma', mc', ka', kc', h, hf⟩ := hcut
  have H := hid h
  have FR := hid hf
  clear h hf
  generalize hma : ma' = ma_ at *
  generalize hmc : mc' = mc_ at *
  generalize hka : ka' = ka_ at *
  generalize hkc : kc' = kc_ at *
  clear hma hmc hka hkc
  obtain ⟨x10, hx'⟩ : ∃ y, y = mS10 x9 := ⟨_, rfl⟩
  rw [← hx'] at H
  have E10 := hid hx'
  clear hx'
  go_upto_region 17 with (fail)
  go_cut [] from 123 to 126 (fun wx => Md W X (X + 1) wx (mS11 x10) (u) ma_ mc_ ka_ kc_)
  case first =>
    obtain ⟨c15, d15⟩ := H.out.c (i := 15) (v := .int .i64 x10.ini) rfl
    go_wp2_with fail
    refine (hmod_any x10.ini 3 (by omega) (by omega) _).mono ?_
    rintro e w9 ⟨rfl, hw9⟩
    rw [hw9]
    go_wp2_with fail
    go_meet
    exact H.out.setX 15 (.int .i64 (x10.ini % 3)) rfl rfl rfl
  case rest =>
  have H := hid hcut
  clear hcut
  obtain ⟨x11, hx'⟩ : ∃ y, y = mS11 x10 := ⟨_, rfl⟩
  rw [← hx'] at H
  have E11 := hid hx'
  clear hx'
  go_upto_region 18 with (fail)
  obtain ⟨nt, hnt⟩ : ∃ b, b = (x11.intra || !u.p.cab) := ⟨_, rfl⟩
  have NT := hid hnt
  clear hnt
  go_cut [134] from 127 to 133 (fun s wx => s = .bool nt ∧ wx = wc)
  case first =>
    obtain ⟨c1, d1⟩ := H.out.c (i := 1) (v := .bool x11.intra) rfl
    obtain ⟨u4, v4⟩ := H.out.u (i := 4) (v := .bool u.p.cab) rfl
    have NT' := hid (show nt = (x11.intra || !u.p.cab) from NT.out)
    clear NT
    generalize x11.intra = a at *
    generalize u.p.cab = b at *
    cases a <;> cases b
    all_goals
      go_wp2_with fail
      go_meet
      exact ⟨by rw [NT'.out]; rfl, rfl⟩
  case rest =>
  obtain ⟨rfl, rfl⟩ := hcut
  go_upto_if 134 with (fail)
  go_cut [] from 134 to 135 (fun wx => Md W X (X + 1) wx (mS12 u x11) (u) ma_ mc_ ka_ kc_)
  case first =>
    cases nt with
    | true =>
      have E12 := hid (show mS12 u x11 = { x11 with ini := 0 } from by
        have := NT.out
        rw [HV.eq_iff]; simp [mS12]
        intro h1 h2; rw [h1, h2] at this; cases this)
      obtain ⟨c15, d15⟩ := H.out.c (i := 15) (v := .int .i64 x11.ini) rfl
      clear NT
      go_wp2_with fail
      go_meet
      rw [E12.out]
      exact H.out.setX 15 (.int .i64 0) rfl rfl rfl
    | false =>
      have E12 := hid (show mS12 u x11 = x11 from by
        have := NT.out
        rw [HV.eq_iff]; simp [mS12]
        intro h1; cases h2 : x11.intra <;> cases h3 : u.p.cab <;> simp [h2, h3] at this h1)
      clear NT
      go_wp2_with fail
      go_meet
      rw [E12.out]
      exact H.out
  case rest =>
  have H := hid hcut
  clear hcut
  obtain ⟨x12, hx'⟩ : ∃ y, y = mS12 u x11 := ⟨_, rfl⟩
  rw [← hx'] at H
  have E12 := hid hx'
  clear hx'
  clear NT
  go_upto_region 20 with (fail)
  go_cut [] from 136 to 144 (fun wx => Md W X (X + 1) wx (mS13 u x12) (u) ma_ mc_ ka_ kc_)
  case first =>
    have b1 := Int.emod_nonneg x12.qp (show (52 : Int) ≠ 0 by omega)
    have b2 := Int.emod_lt_of_pos x12.qp (show (0 : Int) < 52 by omega)
    have b3 := (okP_qpM (un_ok OKU.out).2.2.1)
    have g1 : IntKind.i64.wrap (x12.qp % 52 - 26) = x12.qp % 52 - 26 := IntWalk.i64_in _ ⟨by omega, by omega⟩
    have g2 : IntKind.i64.wrap (x12.qp % 52 - 26 - u.p.qp) = x12.qp % 52 - 26 - u.p.qp := IntWalk.i64_in _ ⟨by omega, by omega⟩
    clear b1 b2 b3
    have HD := hid (H.out.only (Only.refl [] wc).drew)
    refine wp_region_U (fun w' => w' = wc.drew) (fun w' => Only [X] wc.drew w') 9 9 10 (by kernel_rfl) rfl rfl (Only.refl _ _) (fun hS hS2 => ?_)
    clear hS
    generalize wc.drew = wd at *
    have hS : wd = wd := rfl
    obtain ⟨c16, d16⟩ := HD.out.c (i := 16) (v := .int .i64 x12.qp) rfl
    obtain ⟨u7, v7⟩ := HD.out.u (i := 7) (v := .int .i64 u.p.qp) rfl
    refine wpAnyU_take 0 (v := ?vau28) rfl (by kernel_rfl) (fun _ _ _ h => h) (Or.inl ⟨by rfl, ?yau28⟩) hS hS2 ?rau28
    case yau28 =>
      intro w hSw
      rw [hSw]
      go_simp
      (try with_reducible rfl)
    (try simp only [Act.put, List.setIfInBounds_toArray, List.set_cons_zero, List.set_cons_succ])
    refine wpAnyU_take 1 (v := ?vau29) rfl (by kernel_rfl) (fun _ _ _ h => h) (Or.inl ⟨by rfl, ?yau29⟩) hS hS2 ?rau29
    case yau29 =>
      intro w hSw
      rw [hSw]
      go_simp
      (try with_reducible rfl)
    (try simp only [Act.put, List.setIfInBounds_toArray, List.set_cons_zero, List.set_cons_succ])
    refine wpAnyU_take 4 (v := ?vau30) rfl (by kernel_rfl) (fun _ _ _ h => h) (Or.inl ⟨by rfl, ?yau30⟩) hS hS2 ?rau30
    case yau30 =>
      intro w hSw
      rw [hSw]
      go_simp
      (try with_reducible rfl)
    (try simp only [Act.put, List.setIfInBounds_toArray, List.set_cons_zero, List.set_cons_succ])
    refine wpAnyU_take 5 (v := ?vau31) rfl (by kernel_rfl) (fun _ _ _ h => h) (Or.inl ⟨by rfl, ?yau31⟩) hS hS2 ?rau31
    case yau31 =>
      intro w hSw
      rw [hSw]
      go_simp
      (try with_reducible rfl)
    (try simp only [Act.put, List.setIfInBounds_toArray, List.set_cons_zero, List.set_cons_succ])
    refine wpAnyU_take 6 (v := ?vau32) rfl (by kernel_rfl) (fun _ _ _ h => h) (Or.inl ⟨by rfl, ?yau32⟩) hS hS2 ?rau32
    case yau32 =>
      intro w hSw
      rw [hSw]
      go_simp
      (try with_reducible rfl)
    (try simp only [Act.put, List.setIfInBounds_toArray, List.set_cons_zero, List.set_cons_succ])
    refine wpAnyU_one 2 rfl (by kernel_rfl) (fun K hK => ?_)
    rw [if_pos (by rfl)]
    go_simp
    refine (hmod_any x12.qp 52 (by omega) (by omega) _).mono ?_
    rintro e w9 ⟨rfl, hw9⟩
    rw [hw9]
    clear hw9
    refine hK.out _ _ (fun _ => hS) (fun _ => hS2) ?_
    clear hK K
    (try simp only [Act.put, List.setIfInBounds_toArray, List.set_cons_zero, List.set_cons_succ])
    refine wpAnyU_take 3 (v := ?vau33) rfl (by kernel_rfl) (fun _ _ _ h => h) (Or.inl ⟨by rfl, ?yau33⟩) hS hS2 ?rau33
    case yau33 =>
      intro w hSw
      rw [hSw]
      go_simp
      (try with_reducible rfl)
    (try simp only [Act.put, List.setIfInBounds_toArray, List.set_cons_zero, List.set_cons_succ])
    refine wpAnyU_take 7 (v := ?vau34) rfl (by kernel_rfl) (fun _ _ _ h => h) (Or.inl ⟨by rfl, ?yau34⟩) hS hS2 ?rau34
    case yau34 =>
      intro w hSw
      rw [hSw]
      go_simp
      (try with_reducible rfl)
    (try simp only [Act.put, List.setIfInBounds_toArray, List.set_cons_zero, List.set_cons_succ])
    refine wpAnyU_one 8 rfl (by kernel_rfl) (fun K hK => ?_)
    rw [if_pos (by rfl)]
    go_simp
    refine hK.out _ _ (fun _ => hS) (fun _ => hS2) ?_
    clear hK K
    (try simp only [Act.put, List.setIfInBounds_toArray, List.set_cons_zero, List.set_cons_succ])
    refine wpAnyU_one 9 rfl (by kernel_rfl) (fun K hK => ?_)
    rw [if_pos (by rfl)]
    go_simp
    refine hK.out _ _ (fun h => absurd h (by decide +kernel)) (fun h => absurd h (by decide +kernel)) ?_
    clear hK K
    (try simp only [Act.put, List.setIfInBounds_toArray, List.set_cons_zero, List.set_cons_succ])
    refine wpAnyU_done (by kernel_rfl) ?_ _
    go_wp2_with fail
    go_meet
    exact HD.out.setX 16 (.int .i64 (x12.qp % 52 - 26 - u.p.qp)) rfl rfl rfl
  case rest =>
  have H := hid hcut
  clear hcut
  obtain ⟨x13, hx'⟩ : ∃ y, y = mS13 u x12 := ⟨_, rfl⟩
  rw [← hx'] at H
  have E13 := hid hx'
  clear hx'
  go_upto_region 21 with (fail)
  go_cut [] from 145 to 158 (fun wx => Md W X (X + 1) wx (mS14 x13) (u) ma_ mc_ ka_ kc_)
  case first =>
    have b1 := Int.emod_nonneg x13.a (show (13 : Int) ≠ 0 by omega)
    have b2 := Int.emod_lt_of_pos x13.a (show (0 : Int) < 13 by omega)
    have b3 := Int.emod_nonneg x13.b (show (13 : Int) ≠ 0 by omega)
    have b4 := Int.emod_lt_of_pos x13.b (show (0 : Int) < 13 by omega)
    have g1 : IntKind.i64.wrap (x13.a % 13 - 6) = x13.a % 13 - 6 := IntWalk.i64_in _ ⟨by omega, by omega⟩
    have g2 : IntKind.i64.wrap (x13.b % 13 - 6) = x13.b % 13 - 6 := IntWalk.i64_in _ ⟨by omega, by omega⟩
    clear b1 b2 b3 b4
    have HD := hid (H.out.only (Only.refl [] wc).drew)
    refine wp_region_U (fun w' => w' = wc.drew) (fun w' => Only [X] wc.drew w') 12 16 17 (by kernel_rfl) rfl rfl (Only.refl _ _) (fun hS hS2 => ?_)
    clear hS
    generalize wc.drew = wd at *
    have hS : wd = wd := rfl
    obtain ⟨c17, d17⟩ := HD.out.c (i := 17) (v := .int .i64 x13.fil) rfl
    obtain ⟨c18, d18⟩ := HD.out.c (i := 18) (v := .int .i64 x13.a) rfl
    obtain ⟨c19, d19⟩ := HD.out.c (i := 19) (v := .int .i64 x13.b) rfl
    refine wpAnyU_take 0 (v := ?vau35) rfl (by kernel_rfl) (fun _ _ _ h => h) (Or.inl ⟨by rfl, ?yau35⟩) hS hS2 ?rau35
    case yau35 =>
      intro w hSw
      rw [hSw]
      go_simp
      (try with_reducible rfl)
    (try simp only [Act.put, List.setIfInBounds_toArray, List.set_cons_zero, List.set_cons_succ])
    refine wpAnyU_take 1 (v := ?vau36) rfl (by kernel_rfl) (fun _ _ _ h => h) (Or.inl ⟨by rfl, ?yau36⟩) hS hS2 ?rau36
    case yau36 =>
      intro w hSw
      rw [hSw]
      go_simp
      (try with_reducible rfl)
    (try simp only [Act.put, List.setIfInBounds_toArray, List.set_cons_zero, List.set_cons_succ])
    refine wpAnyU_take 3 (v := ?vau37) rfl (by kernel_rfl) (fun _ _ _ h => h) (Or.inl ⟨by rfl, ?yau37⟩) hS hS2 ?rau37
    case yau37 =>
      intro w hSw
      rw [hSw]
      go_simp
      (try with_reducible rfl)
    (try simp only [Act.put, List.setIfInBounds_toArray, List.set_cons_zero, List.set_cons_succ])
    refine wpAnyU_take 4 (v := ?vau38) rfl (by kernel_rfl) (fun _ _ _ h => h) (Or.inl ⟨by rfl, ?yau38⟩) hS hS2 ?rau38
    case yau38 =>
      intro w hSw
      rw [hSw]
      go_simp
      (try with_reducible rfl)
    (try simp only [Act.put, List.setIfInBounds_toArray, List.set_cons_zero, List.set_cons_succ])
    refine wpAnyU_take 7 (v := ?vau39) rfl (by kernel_rfl) (fun _ _ _ h => h) (Or.inl ⟨by rfl, ?yau39⟩) hS hS2 ?rau39
    case yau39 =>
      intro w hSw
      rw [hSw]
      go_simp
      (try with_reducible rfl)
    (try simp only [Act.put, List.setIfInBounds_toArray, List.set_cons_zero, List.set_cons_succ])
    refine wpAnyU_take 8 (v := ?vau40) rfl (by kernel_rfl) (fun _ _ _ h => h) (Or.inl ⟨by rfl, ?yau40⟩) hS hS2 ?rau40
    case yau40 =>
      intro w hSw
      rw [hSw]
      go_simp
      (try with_reducible rfl)
    (try simp only [Act.put, List.setIfInBounds_toArray, List.set_cons_zero, List.set_cons_succ])
    refine wpAnyU_one 2 rfl (by kernel_rfl) (fun K hK => ?_)
    rw [if_pos (by rfl)]
    go_simp
    refine (hmod_any x13.fil 3 (by omega) (by omega) _).mono ?_
    rintro e w9 ⟨rfl, hw9⟩
    rw [hw9]
    clear hw9
    refine hK.out _ _ (fun _ => hS) (fun _ => hS2) ?_
    clear hK K
    (try simp only [Act.put, List.setIfInBounds_toArray, List.set_cons_zero, List.set_cons_succ])
    refine wpAnyU_take 11 (v := ?vau41) rfl (by kernel_rfl) (fun _ _ _ h => h) (Or.inl ⟨by rfl, ?yau41⟩) hS hS2 ?rau41
    case yau41 =>
      intro w hSw
      rw [hSw]
      go_simp
      (try with_reducible rfl)
    (try simp only [Act.put, List.setIfInBounds_toArray, List.set_cons_zero, List.set_cons_succ])
    refine wpAnyU_one 5 rfl (by kernel_rfl) (fun K hK => ?_)
    rw [if_pos (by rfl)]
    go_simp
    refine (hmod_any x13.a 13 (by omega) (by omega) _).mono ?_
    rintro e w9 ⟨rfl, hw9⟩
    rw [hw9]
    clear hw9
    refine hK.out _ _ (fun _ => hS) (fun _ => hS2) ?_
    clear hK K
    (try simp only [Act.put, List.setIfInBounds_toArray, List.set_cons_zero, List.set_cons_succ])
    refine wpAnyU_late 6 (v := ?vau42) rfl (by kernel_rfl) (fun _ _ _ h => h) (Or.inl ⟨by rfl, ?yau42⟩) hS hS2 ?rau42
    case yau42 =>
      intro w hSw
      skip
      go_simp
      (try with_reducible rfl)
    (try simp only [Act.put, List.setIfInBounds_toArray, List.set_cons_zero, List.set_cons_succ])
    refine wpAnyU_one 9 rfl (by kernel_rfl) (fun K hK => ?_)
    rw [if_pos (by rfl)]
    go_simp
    refine (hmod_any x13.b 13 (by omega) (by omega) _).mono ?_
    rintro e w9 ⟨rfl, hw9⟩
    rw [hw9]
    clear hw9
    refine hK.out _ _ (fun _ => hS) (fun _ => hS2) ?_
    clear hK K
    (try simp only [Act.put, List.setIfInBounds_toArray, List.set_cons_zero, List.set_cons_succ])
    refine wpAnyU_late 10 (v := ?vau43) rfl (by kernel_rfl) (fun _ _ _ h => h) (Or.inl ⟨by rfl, ?yau43⟩) hS hS2 ?rau43
    case yau43 =>
      intro w hSw
      skip
      go_simp
      (try with_reducible rfl)
    (try simp only [Act.put, List.setIfInBounds_toArray, List.set_cons_zero, List.set_cons_succ])
    refine wpAnyU_one 12 rfl (by kernel_rfl) (fun K hK => ?_)
    rw [if_pos (by rfl)]
    go_simp
    refine hK.out _ _ (fun h => absurd h (by decide +kernel)) (fun _ => hS2.setCell (.inl (by simp)) _) ?_
    clear hK K
    (try simp only [Act.put, List.setIfInBounds_toArray, List.set_cons_zero, List.set_cons_succ])
    refine wpAnyU_one 13 rfl (by kernel_rfl) (fun K hK => ?_)
    rw [if_pos (by rfl)]
    go_simp
    refine hK.out _ _ (fun h => absurd h (by decide +kernel)) (fun _ => hS2.setCell (.inl (by simp)) _) ?_
    clear hK K
    (try simp only [Act.put, List.setIfInBounds_toArray, List.set_cons_zero, List.set_cons_succ])
    refine wpAnyU_one 14 rfl (by kernel_rfl) (fun K hK => ?_)
    rw [if_pos (by rfl)]
    go_simp
    refine hK.out _ _ (fun h => absurd h (by decide +kernel)) (fun _ => (hS2.setCell (.inl (by simp)) _).setCell (.inl (by simp)) _) ?_
    clear hK K
    (try simp only [Act.put, List.setIfInBounds_toArray, List.set_cons_zero, List.set_cons_succ])
    refine wpAnyU_one 15 rfl (by kernel_rfl) (fun K hK => ?_)
    rw [if_pos (by rfl)]
    go_simp
    refine hK.out _ _ (fun h => absurd h (by decide +kernel)) (fun _ => (hS2.setCell (.inl (by simp)) _).setCell (.inl (by simp)) _) ?_
    clear hK K
    (try simp only [Act.put, List.setIfInBounds_toArray, List.set_cons_zero, List.set_cons_succ])
    refine wpAnyU_one 16 rfl (by kernel_rfl) (fun K hK => ?_)
    rw [if_pos (by rfl)]
    go_simp
    refine hK.out _ _ (fun h => absurd h (by decide +kernel)) (fun h => absurd h (by decide +kernel)) ?_
    clear hK K
    (try simp only [Act.put, List.setIfInBounds_toArray, List.set_cons_zero, List.set_cons_succ])
    refine wpAnyU_done (by kernel_rfl) ?_ _
    go_wp2_with fail
    go_meet
    have H1 := HD.out.setX (x' := { x13 with fil := x13.fil % 3 }) 17 (.int .i64 (x13.fil % 3)) rfl rfl rfl
    have H2 := H1.setX (x' := { x13 with fil := x13.fil % 3, a := x13.a % 13 - 6 }) 18 (.int .i64 (x13.a % 13 - 6)) rfl rfl rfl
    exact H2.setX 19 (.int .i64 (x13.b % 13 - 6)) rfl rfl rfl
  case rest =>
  have H := hid hcut
  clear hcut
  obtain ⟨x14, hx'⟩ : ∃ y, y = mS14 x13 := ⟨_, rfl⟩
  rw [← hx'] at H
  have E14 := hid hx'
  clear hx'
  obtain ⟨u10, v10⟩ := H.out.u (i := 10) (v := .bool u.p.db) rfl
  go_upto_if 162 with (fail)
  clear u10 v10
  go_cut [] from 159 to 163 (fun wx => Md W X (X + 1) wx (mS15 u x14) (u) ma_ mc_ ka_ kc_)
  case first =>
    cases hi : u.p.db with
    | true =>
      have E15 := hid (show mS15 u x14 = x14 from by rw [HV.eq_iff]; simp [mS15, hi])
      clear hi
      go_wp2_with fail
      go_meet
      rw [E15.out]
      exact H.out
    | false =>
      have E15 := hid (show mS15 u x14 = { x14 with fil := 0 } from by rw [HV.eq_iff]; simp [mS15, hi])
      obtain ⟨c17, d17⟩ := H.out.c (i := 17) (v := .int .i64 x14.fil) rfl
      clear hi
      go_wp2_with fail
      go_meet
      rw [E15.out]
      exact H.out.setX 17 (.int .i64 0) rfl rfl rfl
  case rest =>
  have H := hid hcut
  clear hcut
  obtain ⟨x15, hx'⟩ : ∃ y, y = mS15 u x14 := ⟨_, rfl⟩
  rw [← hx'] at H
  have E15 := hid hx'
  clear hx'
  go_upto_region 24 with (fail)
  obtain ⟨nf, hnf⟩ : ∃ b, b = (!u.p.db || decide (x15.fil = 1)) := ⟨_, rfl⟩
  have NF := hid hnf
  clear hnf
  go_cut [172] from 164 to 171 (fun s wx => s = .bool nf ∧ wx = wc)
  case first =>
    obtain ⟨c17, d17⟩ := H.out.c (i := 17) (v := .int .i64 x15.fil) rfl
    obtain ⟨u10, v10⟩ := H.out.u (i := 10) (v := .bool u.p.db) rfl
    have NF' := hid (show nf = (!u.p.db || decide (x15.fil = 1)) from NF.out)
    clear NF
    generalize u.p.db = b at *
    cases b
    · go_wp2_with fail
      go_meet
      exact ⟨by rw [NF'.out]; rfl, rfl⟩
    · by_cases h1 : x15.fil = 1
      · have e1 : (x15.fil == 1) = true := by simp [h1]
        have NN := hid (show nf = true from by rw [NF'.out]; simp [h1])
        clear h1
        go_wp2_with fail
        go_meet
        exact ⟨by rw [NN.out], rfl⟩
      · have e1 : (x15.fil == 1) = false := by simp [h1]
        have NN := hid (show nf = false from by rw [NF'.out]; simp [h1])
        clear h1
        go_wp2_with fail
        go_meet
        exact ⟨by rw [NN.out], rfl⟩
  case rest =>
  obtain ⟨rfl, rfl⟩ := hcut
  go_upto_if 172 with (fail)
  go_cut [] from 172 to 174 (fun wx => Md W X (X + 1) wx (mS16 u x15) (u) ma_ mc_ ka_ kc_)
  case first =>
    cases nf with
    | true =>
      have E16' := hid (show mS16 u x15 = { x15 with a := 0, b := 0 } from by
        have := NF.out
        rw [HV.eq_iff]; simp [mS16]
        constructor <;> (intro h1 h2; simp [h1, h2] at this))
      obtain ⟨c18, d18⟩ := H.out.c (i := 18) (v := .int .i64 x15.a) rfl
      obtain ⟨c19, d19⟩ := H.out.c (i := 19) (v := .int .i64 x15.b) rfl
      clear NF
      go_wp2_with fail
      go_meet
      rw [E16'.out]
      have H1 := H.out.setX (x' := { x15 with a := 0 }) 18 (.int .i64 0) rfl rfl rfl
      exact H1.setX 19 (.int .i64 0) rfl rfl rfl
    | false =>
      have E16' := hid (show mS16 u x15 = x15 from by
        have := NF.out
        have h3 : u.p.db = true ∧ x15.fil ≠ 1 := by
          cases h2 : u.p.db <;> simp [h2] at this ⊢
          exact this
        rw [HV.eq_iff]; simp [mS16, h3])
      clear NF
      go_wp2_with fail
      go_meet
      rw [E16'.out]
      exact H.out
  case rest =>
  have H := hid hcut
  clear hcut
  clear NF
  obtain ⟨x16, hx'⟩ : ∃ y, y = mS16 u x15 := ⟨_, rfl⟩
  rw [← hx'] at H
  have E16 := hid hx'
  clear hx'
  go_upto_region 26 with (fail)
  have XM := hid (show x16 = madeH u x from by
    rw [E16.out, E15.out, E14.out, E13.out, E12.out, E11.out, E10.out, E9.out, E8.out, E7.out, E6.out, E5.out, E4.out, E3.out, E2.out, E1.out]
    exact made_steps u x)
  have XL := hid (show x16.mods = (mS10 x9).mods ∧ x16.marks = (mS10 x9).marks from by
    rw [E16.out, E15.out, E14.out, E13.out, E12.out, E11.out, E10.out]
    exact ⟨rfl, rfl⟩)
  clear E1 E2 E3 E4 E5 E6 E7 E8 E9 E10 E11 E12 E13 E14 E15 E16
  have HD := hid (H.out.only (Only.refl [] wc).drew)
  have WL := XW.out.2
  have LX := hid (hl_hdr X x16 _ _ wc.drew (fun j v hj => HD.out.bx.cell (by simpa using hj)))
  have LU := hid (fun w (h : Only [X + 1 + 1 + 1] wc.drew w) => hl_unit (X + 1) u w (fun j v hj => (HD.out.bu.only h (by simp)).cell (by simpa using hj)))
  refine wp_region_U (fun w' => w' = wc.drew) (fun w' => Only [X + 1 + 1 + 1] wc.drew w') 2 3 4 (by kernel_rfl) rfl rfl (Only.refl _ _) (fun hS hS2 => ?_)
  clear hS
  generalize wc.drew = wd at *
  have hS : wd = wd := rfl
  have OX := hid HD.out.o
  have B6' := hid (show Blk wd (X + 1 + 1 + 1) 25 (hC h0 (.slice none 0 0) (.slice none 0 0)).toArray from B6.out.only OX.out (by simp; omega))
  have B7' := hid (show Blk wd (X + 1 + 1 + 1 + 1) 31 (uL u0).toArray from B7.out.only OX.out (by simp; omega))
  clear WL
  refine wpAnyU_take 0 rfl (by kernel_rfl) (fun _ _ _ h => h) (yields_load 25 _ (by rfl) rfl ⟨X, 0, none⟩ (hC x16 (.slice ma_ x16.mods.length mc_) (.slice ka_ x16.marks.length kc_)) rfl (fun w h => by rw [h]; exact LX.out)) hS hS2 ?_
  (try simp only [Act.put, List.setIfInBounds_toArray, List.set_cons_zero, List.set_cons_succ])
  refine wpAnyU_late 1 rfl (by kernel_rfl) (fun _ _ _ h => h) (yields_load 31 _ (by rfl) rfl ⟨X + 1, 0, none⟩ (uL u) rfl LU.out) hS hS2 ?_
  (try simp only [Act.put, List.setIfInBounds_toArray, List.set_cons_zero, List.set_cons_succ])
  refine wpAnyU_one 2 rfl (by kernel_rfl) (fun K hK => ?_)
  rw [if_pos (by rfl)]
  refine wp_store_op 25 _ _ rfl (X + 1 + 1 + 1) _ _ (hC x16 (.slice ma_ x16.mods.length mc_) (.slice ka_ x16.marks.length kc_)) rfl rfl (info_hdr' _ _ _) B6'.out (by simp [hC]) (one_hC _ rfl rfl) ?_
  intro w5 hB5 hO5
  refine hK.out _ _ (fun h => absurd h (by decide +kernel)) (fun _ => hO5) ?_
  clear hK K
  (try simp only [Act.put, List.setIfInBounds_toArray, List.set_cons_zero, List.set_cons_succ])
  refine wpAnyU_one 3 rfl (by kernel_rfl) (fun K hK => ?_)
  rw [if_pos (by rfl)]
  refine wp_store_op 31 _ _ rfl (X + 1 + 1 + 1 + 1) _ _ (uL u) rfl rfl (info_unit _) (B7'.out.only hO5 (by simp)) (by simp [uL, pL, sL]) (one_uL _) ?_
  intro w6 hB6 hO6
  refine hK.out _ _ (fun h => absurd h (by decide +kernel)) (fun h => absurd h (by decide +kernel)) ?_
  clear hK K
  (try simp only [Act.put, List.setIfInBounds_toArray, List.set_cons_zero, List.set_cons_succ])
  refine wpAnyU_done (by kernel_rfl) ?_ _
  clear LX LU
  go_wp2_with fail
  have o6 : Only [X + 1 + 1 + 1, X + 1 + 1 + 1 + 1] wd w6 := (hO5.mono (by intro y _ hy; simp at hy ⊢; exact .inl hy)).trans (hO6.mono (by intro y _ hy; simp at hy ⊢; exact .inr hy))
  have hB5' := hB5.only hO6 (by simp)
  have fm : ∀ g, g ∈ ownOf (.slice ma_ x16.mods.length mc_) ∨ g ∈ ownOf (.slice ka_ x16.marks.length kc_) → W.heap.size ≤ g := by
    rw [XL.out.1, XL.out.2]; exact FR.out
  have WL := XW.out
  refine bodyPost_ret (v := .tuple #[hV x16 (.slice ma_ x16.mods.length mc_) (.slice ka_ x16.marks.length kc_), uV u]) (res_cc rfl rfl rfl (lv_hdr hB5') (lv_unit hB6)) rfl ?_
  rw [← UU.out, ← XM.out]
  refine ⟨_, _, rfl, ?_, ?_, ?_, ?_⟩
  · exact HD.out.hm.only2 o6 (fun ad n c e hl hm => by
      have := fm ad.block (.inl (by cases e; simp [ownOf, Value.ownBlock]))
      simp at hm; omega)
  · exact HD.out.hk.only2 o6 (fun ad n c e hl hm => by
      have := fm ad.block (.inr (by cases e; simp [ownOf, Value.ownBlock]))
      simp at hm; omega)
  · exact (OW.out.trans2 OX.out (fun y hy => .inr (by simp at hy; omega))).trans2 o6 (fun y hy => .inr (by simp at hy; omega))
  · intro g hg
    have := fm g hg
    omega
end Go.Proofs.YtojahafmfcfpaaaGreatDoor

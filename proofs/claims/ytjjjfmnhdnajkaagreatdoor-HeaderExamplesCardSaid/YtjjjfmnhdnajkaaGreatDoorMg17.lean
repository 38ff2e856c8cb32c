/- The program's fields after Pps, one by one, whatever is done with them. -/
/- The program's fields after Pps: those that depend on two things. -/
import Derived.Test.YtjjjfmnhdnajkaaGreatDoorMg16
import Derived.Test.YtjjjfmnhdnajkaaGreatDoorMg9
import Derived.Deep.LoopGhost
import Derived.StillTailTactics
section
set_option maxRecDepth 20000
namespace Go.Proofs.YtjjjfmnhdnajkaaGreatDoor
open Go.RowKit
set_option linter.unusedVariables false
set_option linter.unusedSimpArgs false

/-- A slice that is not in some blocks. -/
def Ap (v : Value) (l : List (Int × Int × Int)) (X : List Nat) : Prop := ∀ ad n c, v = .slice (some ad) n c → l ≠ [] → ad.block ∉ X
/-- Which blocks may change, and which the slices are not in. -/
def HOwn {σ : Type} {M : Mach σ} (E : Env M) (W0 : World) (S0 : List Nat) (hb : Nat) (T : List Nat) (x : HV) (mv kv : Value) : Prop :=
  (∀ y, y ∈ hb :: T → y ∈ S0 ∨ W0.heap.size ≤ y) ∧ Ap mv x.mods E.X ∧ Ap kv x.marks E.X ∧ ∀ y, y ∈ E.X → y < W0.heap.size
/-- A head in memory, with what is done with its fields; the blocks that may change are those of S0, or newer than W0. -/
structure HAt {σ : Type} {M : Mach σ} (E : Env M) (un : UN) (W0 : World) (S0 : List Nat) (hb n : Nat) (x : HV) (st : σ) (w : World) : Prop where
  ex : ∃ T mv kv, Blk w hb 73 (hdC x mv kv un E.d1 E.d2) ∧ E.env n st T w ∧ hb ∉ T ∧ Sl w mv x.mods (hb :: T) ∧ Sl w kv x.marks (hb :: T) ∧ HOwn E W0 S0 hb T x mv kv
  only : Only S0 W0 w
def FPost {σ : Type} {M : Mach σ} (E : Env M) (un : UN) (W0 : World) (S0 : List Nat) (hb n : Nat) (r : Int × HV × σ) (e : Ending) (w' : World) : Prop :=
  e = .returned (.int .i64 r.1) ∧ HAt E un W0 S0 hb n r.2.1 r.2.2 w'
section
variable {σ : Type} {M : Mach σ} {E : Env M} {un : UN} {W0 : World} {S0 : List Nat} {hb n : Nat} {x : HV} {st : σ} {w w' : World}
theorem HAt.mono (h : HAt E un W0 S0 hb n x st w) : HAt E un W0 S0 hb (n + 1) x st w := by
  obtain ⟨⟨T, mv, kv, h1, h2, h3⟩, h4⟩ := h
  exact ⟨⟨T, mv, kv, h1, E.mono h2, h3⟩, h4⟩
theorem HAt.lt (h : HAt E un W0 S0 hb n x st w) : hb < w.heap.size := by
  obtain ⟨⟨T, mv, kv, h1, h2, h3⟩, h4⟩ := h
  exact h1.lt
theorem HAt.cell (h : HAt E un W0 S0 hb n x st w) {i : Nat} {v : Value} (hv : ∀ mv kv, (hdC x mv kv un E.d1 E.d2)[i]? = some v) : w.cell? ⟨hb, i, none⟩ = some v := by
  obtain ⟨⟨T, mv, kv, h1, h2, h3⟩, h4⟩ := h
  exact h1.cell (hv mv kv)
theorem HAt.keep (h : HAt E un W0 S0 hb n x st w) (o : Only [] w w') : HAt E un W0 S0 hb n x st w' := by
  obtain ⟨⟨T, mv, kv, h1, h2, h3, h4, h5, h6⟩, h7⟩ := h
  exact ⟨⟨T, mv, kv, h1.only o (by simp), E.keep h2 o (by simp) (by simp), h3, h4.only o (by simp), h5.only o (by simp), h6⟩, h7.trans (o.mono (by simp))⟩
/-- Behind what has changed one cell of the head. -/
theorem fld_step {r1 : Int} {val : Value} {r3 : σ} {x' : HV} {i : Nat} {T : List Nat} {mv kv : Value} {e : Ending}
    (hB : Blk w hb 73 (hdC x mv kv un E.d1 E.d2)) (hT : hb ∉ T) (hlt : ∀ y, y ∈ T → y < w.heap.size) (hm : Sl w mv x.mods (hb :: T)) (hk : Sl w kv x.marks (hb :: T)) (hS : HOwn E W0 S0 hb T x mv kv) (hO : Only S0 W0 w)
    (hset : (hdC x mv kv un E.d1 E.d2).setIfInBounds i val = hdC x' mv kv un E.d1 E.d2) (h1 : x'.mods = x.mods) (h2 : x'.marks = x.marks)
    (h : FldPost E.env (r1, val, r3) n T w hb i 73 (hdC x mv kv un E.d1 E.d2) e w') : FPost E un W0 S0 hb (n + 1) (r1, x', r3) e w' := by
  obtain ⟨rfl, ho, hb', T', he, hT'⟩ := h
  have hu : ∀ y, y ∈ hb :: T' → y ∈ hb :: T ∨ w.heap.size ≤ y := by
    intro y hy
    rcases List.mem_cons.1 hy with e | e
    · exact .inl (by simp [e])
    · exact (hT' y e).imp (List.mem_cons_of_mem _) id
  refine ⟨rfl, ⟨T', mv, kv, ?_, he, fun hh => ?_, ?_, ?_, fun y hy => ?_, by rw [h1]; exact hS.2.1, by rw [h2]; exact hS.2.2.1, hS.2.2.2⟩, hO.trans2 ho hS.1⟩
  · rw [← hset]; exact hb'
  · rcases hT' _ hh with e | e
    · exact hT e
    · exact absurd hB.lt (by omega)
  · rw [h1]; exact hm.step ho (fun y hy => .inl hy) hu
  · rw [h2]; exact hk.step ho (fun y hy => .inl hy) hu
  · rcases hu y hy with e | e
    · exact hS.1 y e
    · exact .inr (Nat.le_trans hO.size e)
theorem num_go (hH : HAt E un W0 S0 hb n x st w) (hn : n ≤ 60) (hG : ∀ m, kindG m ≠ hb) (has : Bool) (c : Cd) (v : Int) (set : Int → HV) (i : Nat) (hk : cdOk c) (ho : has = true → M.okN c v)
    (hi : ∀ mv kv, (hdC x mv kv un E.d1 E.d2)[i]? = some (.int .i64 v)) (hset : ∀ mv kv val, (hdC x mv kv un E.d1 E.d2).setIfInBounds i (.int .i64 val) = hdC (set val) mv kv un E.d1 E.d2) (hm : ∀ val, (set val).mods = x.mods ∧ (set val).marks = x.marks) :
    ∀ w1 cv K, Only [] w w1 → CdAt w1 cv K c → w.heap.size ≤ K → Calls Tryz.prog 111 #[.pointer (some ⟨hb, 0, none⟩), .bool has, .pointer (some ⟨hb, i, none⟩), cv] w1 (FPost E un W0 S0 hb (n + 1) (numF M has v set c st)) := by
  intro w1 cv K o hC hK
  obtain ⟨⟨T, mv, kv, g1, g2, h3, g4, g5, h6⟩, g7⟩ := hH
  have h1 := g1.only o (by simp)
  have h2 := E.keep g2 o (by simp) (by simp)
  have h7 := g7.trans (o.mono (T := S0) (by simp))
  obtain ⟨val, hv1, hv2⟩ : ∃ val, numV M has v c st = ((numF M has v set c st).1, .int .i64 val, (numF M has v set c st).2.2) ∧ (numF M has v set c st).2.1 = set val := by
    unfold numV numF
    cases has
    · exact ⟨v, rfl, rfl⟩
    · exact ⟨_, rfl, rfl⟩
  refine (number_any E hk ho hn h2 (h1.cell rfl) h1 (hi mv kv) h3 hG hC (fun h => by have := E.lt g2 _ h; omega)).mono fun e w' hp => ?_
  rw [hv1] at hp
  have := fld_step (x' := set val) h1 h3 (E.lt h2) (g4.only o (by simp)) (g5.only o (by simp)) h6 h7 (hset mv kv val) (hm val).1 (hm val).2 hp
  rw [← hv2] at this
  exact this
theorem flag_go (hH : HAt E un W0 S0 hb n x st w) (hn : n ≤ 60) (hG : ∀ m, kindG m ≠ hb) (has : Bool) (v : Bool) (set : Bool → HV) (i : Nat) (ho : has = true → M.okN (.u 1) (b2i v))
    (hi : ∀ mv kv, (hdC x mv kv un E.d1 E.d2)[i]? = some (.bool v)) (hset : ∀ mv kv val, (hdC x mv kv un E.d1 E.d2).setIfInBounds i (.bool val) = hdC (set val) mv kv un E.d1 E.d2) (hm : ∀ val, (set val).mods = x.mods ∧ (set val).marks = x.marks) :
    ∀ w1, Only [] w w1 → Calls Tryz.prog 114 #[.pointer (some ⟨hb, 0, none⟩), .bool has, .pointer (some ⟨hb, i, none⟩)] w1 (FPost E un W0 S0 hb (n + 1) (flagF M has v set st)) := by
  intro w1 o
  obtain ⟨⟨T, mv, kv, h1, h2, h3, h4, h5, h6⟩, h7⟩ := hH.keep o
  obtain ⟨val, hv1, hv2⟩ : ∃ val, flagV M has v st = ((flagF M has v set st).1, .bool val, (flagF M has v set st).2.2) ∧ (flagF M has v set st).2.1 = set val := by
    unfold flagV flagF
    cases has
    · exact ⟨v, rfl, rfl⟩
    · exact ⟨_, rfl, rfl⟩
  refine (flag_any E ho hn h2 (h1.cell rfl) h1 (hi mv kv) h3 hG).mono fun e w' hp => ?_
  rw [hv1] at hp
  have := fld_step (x' := set val) h1 h3 (E.lt h2) h4 h5 h6 h7 (hset mv kv val) (hm val).1 (hm val).2 hp
  rw [← hv2] at this
  exact this
/-- One of the two lists. -/
def lstOf (m : Bool) (x : HV) : List (Int × Int × Int) := if m = true then x.marks else x.mods
def lstSet (m : Bool) (x : HV) (l : List (Int × Int × Int)) : HV := if m = true then { x with marks := l } else { x with mods := l }
def lstI (m : Bool) : Nat := if m = true then 14 else 10
theorem list_go (hH : HAt E un W0 S0 hb n x st w) (hn : n ≤ 60) (hG : ∀ m, kindG m ≠ hb) (m has : Bool) (ho : has = true → M.okL m (lstOf m x)) :
    ∀ w1, Only [] w w1 → Calls Tryz.prog 115 #[.pointer (some ⟨hb, 0, none⟩), .bool has, .pointer (some ⟨hb, lstI m, none⟩), cmsV m] w1 (FPost E un W0 S0 hb (n + 1) (lstF M has m (lstOf m x) (lstSet m x) st)) := by
  intro w1 o
  obtain ⟨⟨T, mv, kv, h1, h2, h3, h4, h5, h6⟩, h7⟩ := hH.keep o
  have hsl : Sl w1 (if m = true then kv else mv) (lstOf m x) (hb :: T) := by cases m <;> assumption
  have hci : (hdC x mv kv un E.d1 E.d2)[lstI m]? = some (if m = true then kv else mv) := by cases m <;> rfl
  cases has with
  | false =>
    refine (list_not m hb hb (lstI m) (lstOf m x) _ w1 hsl.h (h1.cell hci)).mono fun e w' ⟨ha, hb'⟩ => ?_
    subst ha
    have hl : lstSet m x (lstOf m x) = x := by cases m <;> rfl
    unfold lstF
    simp only [Bool.false_eq_true, if_false, hl]
    exact ⟨rfl, ((HAt.mk ⟨T, mv, kv, h1, h2, h3, h4, h5, h6⟩ h7 : HAt E un W0 S0 hb n x st w1).keep hb').mono⟩
  | true =>
    refine (E.lst (ho rfl) hn h2 (h1.cell rfl) h1 hci hsl h3 hG).mono fun e w' ⟨ha, hO, sv, T', hB, hs, he, hT', hD⟩ => ?_
    subst ha
    unfold lstF
    simp only [if_true]
    have hu : ∀ y, y ∈ hb :: T' → y ∈ hb :: T ∨ w1.heap.size ≤ y := by
      intro y hy
      rcases List.mem_cons.1 hy with e | e
      · exact .inl (by simp [e])
      · exact (hT' y e).imp (List.mem_cons_of_mem _) id
    have hold : Ap (if m = true then kv else mv) (lstOf m x) E.X := by cases m; exact h6.2.1; exact h6.2.2.1
    have hAp : Ap sv (M.lst m (lstOf m x) st).2.1 E.X := by
      rcases hD with ⟨d1, d2⟩ | d
      · rw [hci] at d1
        rw [← d2, ← Option.some.inj d1]
        exact hold
      · intro ad n c e hl hx
        have := d ad n c e hl
        have := h6.2.2.2 _ hx
        have := h7.size
        omega
    refine ⟨rfl, ⟨T', if m = true then mv else sv, if m = true then sv else kv, ?_, he, fun hh => ?_, ?_, ?_, fun y hy => ?_, ?_, ?_, h6.2.2.2⟩, h7.trans2 hO h6.1⟩
    · cases m <;> exact hB
    · rcases hT' _ hh with e | e
      · exact h3 e
      · exact absurd h1.lt (by omega)
    · cases m
      · exact hs
      · exact h4.step hO (fun y hy => .inl hy) hu
    · cases m
      · exact h5.step hO (fun y hy => .inl hy) hu
      · exact hs
    · rcases hu y hy with e | e
      · exact h6.1 y e
      · exact .inr (Nat.le_trans h7.size e)
    · cases m
      · exact hAp
      · exact h6.2.1
    · cases m
      · exact h6.2.2.1
      · exact hAp
theorem uC_int (a : Int) (h0 : 0 ≤ a) (h1 : a ≤ 16) (w : World) : Calls Tryz.prog 112 #[.int .i64 a] w fun e w' => ∃ cv K, e = .returned cv ∧ CdAt w' cv K (.u a) ∧ w.heap.size ≤ K ∧ Only [] w w' := by
  obtain ⟨N, rfl⟩ := Int.eq_ofNat_of_zero_le h0
  exact uC_any N (by have : (N : Int) ≤ 16 := h1; omega) w
set_option maxRecDepth 100000 in
set_option maxHeartbeats 2000000 in
theorem fframe_any (hH : HAt E un W0 S0 hb n x st w) (hn : n ≤ 60) (hG : ∀ m, kindG m ≠ hb) (hs : okS un.s = true) (hp : okP un.p = true) (ho : stepOk M un 0 x) : Calls Tryz.prog 65 #[.pointer (some ⟨hb, 0, none⟩)] w (FPost E un W0 S0 hb (n + 1) (stepH M un 0 x st)) := by
  have CB := unOk_cd hs hp
  have NA := hid (num_go hH hn hG (true) (.u un.s.fb) (x.fr) (fun v => { x with fr := v }) 4 CB.1 (fun _ => ho) (fun _ _ => rfl) (fun _ _ _ => rfl) (fun _ => ⟨rfl, rfl⟩))
  have k36 := hH.cell (i := 36) (v := .int .i64 un.s.fb) (fun _ _ => rfl)
  have CM := hid (fun w => uC_int un.s.fb CB.1.1 CB.1.2 w)
  unfold FPost at NA ⊢
  rw [show stepH M un 0 x st = numF M (true) (x.fr) (fun v => { x with fr := v }) (.u un.s.fb) st from rfl]
  generalize numF M (true) (x.fr) (fun v => { x with fr := v }) (.u un.s.fb) st = r at *
  clear hH hs hp ho CB
  go_enter Tryz.func65, Tryz.ntmps65
  go_wp2_with fail
  go_region_with (first | (go_at_call 112; refine (CM.out _).mono ?_; rintro e w2 ⟨cv, K, rfl, hC, hK, hO⟩; have O2 := hid (show Only [] w w2 from Only.trans (by first | exact (Only.refl [] _).drewN _ | exact (Only.refl [] _).drew | exact Only.refl [] _) hO)) | (go_at_call 111; refine (NA.out _ _ _ O2.out hC hK).mono ?_; rintro e w3 ⟨rfl, hP⟩))
  all_goals
    go_wp2_with fail
    go_ret
    exact ⟨rfl, hP⟩
set_option maxRecDepth 100000 in
set_option maxHeartbeats 2000000 in
theorem fpoc_any (hH : HAt E un W0 S0 hb n x st w) (hn : n ≤ 60) (hG : ∀ m, kindG m ≠ hb) (hs : okS un.s = true) (hp : okP un.p = true) (ho : stepOk M un 2 x) : Calls Tryz.prog 67 #[.pointer (some ⟨hb, 0, none⟩)] w (FPost E un W0 S0 hb (n + 1) (stepH M un 2 x st)) := by
  have CB := unOk_cd hs hp
  have NA := hid (num_go hH hn hG (true) (.u un.s.pb) (x.poc) (fun v => { x with poc := v }) 6 CB.2.1 (fun _ => ho) (fun _ _ => rfl) (fun _ _ _ => rfl) (fun _ => ⟨rfl, rfl⟩))
  have k37 := hH.cell (i := 37) (v := .int .i64 un.s.pb) (fun _ _ => rfl)
  have CM := hid (fun w => uC_int un.s.pb CB.2.1.1 CB.2.1.2 w)
  unfold FPost at NA ⊢
  rw [show stepH M un 2 x st = numF M (true) (x.poc) (fun v => { x with poc := v }) (.u un.s.pb) st from rfl]
  generalize numF M (true) (x.poc) (fun v => { x with poc := v }) (.u un.s.pb) st = r at *
  clear hH hs hp ho CB
  go_enter Tryz.func67, Tryz.ntmps67
  go_wp2_with fail
  go_region_with (first | (go_at_call 112; refine (CM.out _).mono ?_; rintro e w2 ⟨cv, K, rfl, hC, hK, hO⟩; have O2 := hid (show Only [] w w2 from Only.trans (by first | exact (Only.refl [] _).drewN _ | exact (Only.refl [] _).drew | exact Only.refl [] _) hO)) | (go_at_call 111; refine (NA.out _ _ _ O2.out hC hK).mono ?_; rintro e w3 ⟨rfl, hP⟩))
  all_goals
    go_wp2_with fail
    go_ret
    exact ⟨rfl, hP⟩
set_option maxRecDepth 100000 in
set_option maxHeartbeats 2000000 in
theorem fidrID_any (hH : HAt E un W0 S0 hb n x st w) (hn : n ≤ 60) (hG : ∀ m, kindG m ≠ hb) (hs : okS un.s = true) (hp : okP un.p = true) (ho : stepOk M un 1 x) : Calls Tryz.prog 66 #[.pointer (some ⟨hb, 0, none⟩)] w (FPost E un W0 S0 hb (n + 1) (stepH M un 1 x st)) := by
  have CB := unOk_cd hs hp
  have NA := hid (num_go hH hn hG (un.idr) (.ue 0 65535) (x.idr) (fun v => { x with idr := v }) 5 cd1 ho (fun _ _ => rfl) (fun _ _ _ => rfl) (fun _ => ⟨rfl, rfl⟩))
  have k21 := hH.cell (i := 21) (v := .bool un.idr) (fun _ _ => rfl)
  have CM := hid (fun w => ueC_any 0 65535 w)
  unfold FPost at NA ⊢
  rw [show stepH M un 1 x st = numF M (un.idr) (x.idr) (fun v => { x with idr := v }) (.ue 0 65535) st from rfl]
  generalize numF M (un.idr) (x.idr) (fun v => { x with idr := v }) (.ue 0 65535) st = r at *
  clear hH hs hp ho CB
  go_enter Tryz.func66, Tryz.ntmps66
  go_wp2_with fail
  go_region_with (first | (go_at_call 113; refine (CM.out _).mono ?_; rintro e w2 ⟨cv, K, rfl, hC, hK, hO⟩; have O2 := hid (show Only [] w w2 from Only.trans (by first | exact (Only.refl [] _).drewN _ | exact (Only.refl [] _).drew | exact Only.refl [] _) hO); have d21 := hO.cell k21 (by simp)) | (go_at_call 111; refine (NA.out _ _ _ O2.out hC hK).mono ?_; rintro e w3 ⟨rfl, hP⟩))
  all_goals
    go_wp2_with fail
    go_ret
    exact ⟨rfl, hP⟩
set_option maxRecDepth 100000 in
set_option maxHeartbeats 2000000 in
theorem frefs_any (hH : HAt E un W0 S0 hb n x st w) (hn : n ≤ 60) (hG : ∀ m, kindG m ≠ hb) (hs : okS un.s = true) (hp : okP un.p = true) (ho : stepOk M un 4 x) : Calls Tryz.prog 69 #[.pointer (some ⟨hb, 0, none⟩)] w (FPost E un W0 S0 hb (n + 1) (stepH M un 4 x st)) := by
  have CB := unOk_cd hs hp
  have NA := hid (num_go hH hn hG (x.over) (.ue 1 32) (x.refs) (fun v => { x with refs := v }) 8 cd2 ho (fun _ _ => rfl) (fun _ _ _ => rfl) (fun _ => ⟨rfl, rfl⟩))
  have k7 := hH.cell (i := 7) (v := .bool x.over) (fun _ _ => rfl)
  have CM := hid (fun w => ueC_any 1 32 w)
  unfold FPost at NA ⊢
  rw [show stepH M un 4 x st = numF M (x.over) (x.refs) (fun v => { x with refs := v }) (.ue 1 32) st from rfl]
  generalize numF M (x.over) (x.refs) (fun v => { x with refs := v }) (.ue 1 32) st = r at *
  clear hH hs hp ho CB
  go_enter Tryz.func69, Tryz.ntmps69
  go_wp2_with fail
  go_region_with (first | (go_at_call 113; refine (CM.out _).mono ?_; rintro e w2 ⟨cv, K, rfl, hC, hK, hO⟩; have O2 := hid (show Only [] w w2 from Only.trans (by first | exact (Only.refl [] _).drewN _ | exact (Only.refl [] _).drew | exact Only.refl [] _) hO); have d7 := hO.cell k7 (by simp)) | (go_at_call 111; refine (NA.out _ _ _ O2.out hC hK).mono ?_; rintro e w3 ⟨rfl, hP⟩))
  all_goals
    go_wp2_with fail
    go_ret
    exact ⟨rfl, hP⟩
set_option maxRecDepth 100000 in
set_option maxHeartbeats 2000000 in
theorem ffilter_any (hH : HAt E un W0 S0 hb n x st w) (hn : n ≤ 60) (hG : ∀ m, kindG m ≠ hb) (hs : okS un.s = true) (hp : okP un.p = true) (ho : stepOk M un 12 x) : Calls Tryz.prog 77 #[.pointer (some ⟨hb, 0, none⟩)] w (FPost E un W0 S0 hb (n + 1) (stepH M un 12 x st)) := by
  have CB := unOk_cd hs hp
  have NA := hid (num_go hH hn hG (un.p.db) (.ue 0 2) (x.fil) (fun v => { x with fil := v }) 17 cd3 ho (fun _ _ => rfl) (fun _ _ _ => rfl) (fun _ => ⟨rfl, rfl⟩))
  have k30 := hH.cell (i := 30) (v := .bool un.p.db) (fun _ _ => rfl)
  have CM := hid (fun w => ueC_any 0 2 w)
  unfold FPost at NA ⊢
  rw [show stepH M un 12 x st = numF M (un.p.db) (x.fil) (fun v => { x with fil := v }) (.ue 0 2) st from rfl]
  generalize numF M (un.p.db) (x.fil) (fun v => { x with fil := v }) (.ue 0 2) st = r at *
  clear hH hs hp ho CB
  go_enter Tryz.func77, Tryz.ntmps77
  go_wp2_with fail
  go_region_with (first | (go_at_call 113; refine (CM.out _).mono ?_; rintro e w2 ⟨cv, K, rfl, hC, hK, hO⟩; have O2 := hid (show Only [] w w2 from Only.trans (by first | exact (Only.refl [] _).drewN _ | exact (Only.refl [] _).drew | exact Only.refl [] _) hO); have d30 := hO.cell k30 (by simp)) | (go_at_call 111; refine (NA.out _ _ _ O2.out hC hK).mono ?_; rintro e w3 ⟨rfl, hP⟩))
  all_goals
    go_wp2_with fail
    go_ret
    exact ⟨rfl, hP⟩
set_option maxRecDepth 100000 in
set_option maxHeartbeats 2000000 in
theorem fover_any (hH : HAt E un W0 S0 hb n x st w) (hn : n ≤ 60) (hG : ∀ m, kindG m ≠ hb) (hs : okS un.s = true) (hp : okP un.p = true) (ho : stepOk M un 3 x) : Calls Tryz.prog 68 #[.pointer (some ⟨hb, 0, none⟩)] w (FPost E un W0 S0 hb (n + 1) (stepH M un 3 x st)) := by
  have NA := hid (flag_go hH hn hG (!x.intra) (x.over) (fun v => { x with over := v }) 7 ho (fun _ _ => rfl) (fun _ _ _ => rfl) (fun _ => ⟨rfl, rfl⟩))
  have k1 := hH.cell (i := 1) (v := .bool x.intra) (fun _ _ => rfl)
  unfold FPost at NA ⊢
  rw [show stepH M un 3 x st = flagF M (!x.intra) (x.over) (fun v => { x with over := v }) st from rfl]
  generalize flagF M (!x.intra) (x.over) (fun v => { x with over := v }) st = r at *
  clear hH hs hp ho
  go_enter Tryz.func68, Tryz.ntmps68
  go_wp2_with fail
  go_region_with ((go_at_call 114; refine (NA.out _ (by first | exact (Only.refl [] _).drewN _ | exact (Only.refl [] _).drew | exact Only.refl [] _)).mono ?_; rintro e w3 ⟨rfl, hP⟩))
  all_goals
    go_wp2_with fail
    go_ret
    exact ⟨rfl, hP⟩
set_option maxRecDepth 100000 in
set_option maxHeartbeats 2000000 in
theorem flisted_any (hH : HAt E un W0 S0 hb n x st w) (hn : n ≤ 60) (hG : ∀ m, kindG m ≠ hb) (hs : okS un.s = true) (hp : okP un.p = true) (ho : stepOk M un 5 x) : Calls Tryz.prog 70 #[.pointer (some ⟨hb, 0, none⟩)] w (FPost E un W0 S0 hb (n + 1) (stepH M un 5 x st)) := by
  have NA := hid (flag_go hH hn hG (!x.intra) (x.listed) (fun v => { x with listed := v }) 9 ho (fun _ _ => rfl) (fun _ _ _ => rfl) (fun _ => ⟨rfl, rfl⟩))
  have k1 := hH.cell (i := 1) (v := .bool x.intra) (fun _ _ => rfl)
  unfold FPost at NA ⊢
  rw [show stepH M un 5 x st = flagF M (!x.intra) (x.listed) (fun v => { x with listed := v }) st from rfl]
  generalize flagF M (!x.intra) (x.listed) (fun v => { x with listed := v }) st = r at *
  clear hH hs hp ho
  go_enter Tryz.func70, Tryz.ntmps70
  go_wp2_with fail
  go_region_with ((go_at_call 114; refine (NA.out _ (by first | exact (Only.refl [] _).drewN _ | exact (Only.refl [] _).drew | exact Only.refl [] _)).mono ?_; rintro e w3 ⟨rfl, hP⟩))
  all_goals
    go_wp2_with fail
    go_ret
    exact ⟨rfl, hP⟩
set_option maxRecDepth 100000 in
set_option maxHeartbeats 2000000 in
theorem fmods_any (hH : HAt E un W0 S0 hb n x st w) (hn : n ≤ 60) (hG : ∀ m, kindG m ≠ hb) (hs : okS un.s = true) (hp : okP un.p = true) (ho : stepOk M un 6 x) : Calls Tryz.prog 71 #[.pointer (some ⟨hb, 0, none⟩)] w (FPost E un W0 S0 hb (n + 1) (stepH M un 6 x st)) := by
  have NA := hid (list_go hH hn hG false (x.listed) ho)
  have k9 := hH.cell (i := 9) (v := .bool (x.listed)) (fun _ _ => rfl)
  have CM := hid (fun w => modsC_any w)
  simp only [lstI, Bool.false_eq_true, if_false, if_true] at NA
  unfold FPost at NA ⊢
  rw [show stepH M un 6 x st = lstF M (x.listed) false (lstOf false x) (lstSet false x) st from rfl]
  generalize lstF M (x.listed) false (lstOf false x) (lstSet false x) st = r at *
  generalize cmsV false = cv at *
  clear hH hs hp ho
  go_enter Tryz.func71, Tryz.ntmps71
  go_wp2_with fail
  go_region_with (first | (go_at_call 116; refine (CM.out _).mono ?_; rintro e w2 ⟨rfl, hO⟩; have O2 := hid (show Only [] w w2 from Only.trans (by first | exact (Only.refl [] _).drewN _ | exact (Only.refl [] _).drew | exact Only.refl [] _) hO); have d9 := hO.cell k9 (by simp)) | (go_at_call 115; refine (NA.out _ O2.out).mono ?_; rintro e w3 ⟨rfl, hP⟩))
  all_goals
    go_wp2_with fail
    go_ret
    exact ⟨rfl, hP⟩
set_option maxRecDepth 100000 in
set_option maxHeartbeats 2000000 in
theorem fmarks_any (hH : HAt E un W0 S0 hb n x st w) (hn : n ≤ 60) (hG : ∀ m, kindG m ≠ hb) (hs : okS un.s = true) (hp : okP un.p = true) (ho : stepOk M un 9 x) : Calls Tryz.prog 74 #[.pointer (some ⟨hb, 0, none⟩)] w (FPost E un W0 S0 hb (n + 1) (stepH M un 9 x st)) := by
  have NA := hid (list_go hH hn hG true (x.ad) ho)
  have k13 := hH.cell (i := 13) (v := .bool (x.ad)) (fun _ _ => rfl)
  have CM := hid (fun w => marksC_any w)
  simp only [lstI, Bool.false_eq_true, if_false, if_true] at NA
  unfold FPost at NA ⊢
  rw [show stepH M un 9 x st = lstF M (x.ad) true (lstOf true x) (lstSet true x) st from rfl]
  generalize lstF M (x.ad) true (lstOf true x) (lstSet true x) st = r at *
  generalize cmsV true = cv at *
  clear hH hs hp ho
  go_enter Tryz.func74, Tryz.ntmps74
  go_wp2_with fail
  go_region_with (first | (go_at_call 117; refine (CM.out _).mono ?_; rintro e w2 ⟨rfl, hO⟩; have O2 := hid (show Only [] w w2 from Only.trans (by first | exact (Only.refl [] _).drewN _ | exact (Only.refl [] _).drew | exact Only.refl [] _) hO); have d13 := hO.cell k13 (by simp)) | (go_at_call 115; refine (NA.out _ O2.out).mono ?_; rintro e w3 ⟨rfl, hP⟩))
  all_goals
    go_wp2_with fail
    go_ret
    exact ⟨rfl, hP⟩
end
end Go.Proofs.YtjjjfmnhdnajkaaGreatDoor

end
section
set_option maxRecDepth 20000
namespace Go.Proofs.YtjjjfmnhdnajkaaGreatDoor
open Go.RowKit
set_option linter.unusedVariables false
set_option linter.unusedSimpArgs false
section
variable {σ : Type} {M : Mach σ} {E : Env M} {un : UN} {W0 : World} {S0 : List Nat} {hb n : Nat} {x : HV} {st : σ} {w w' : World}
set_option maxRecDepth 100000 in
set_option maxHeartbeats 4000000 in
theorem fadapted_any (hH : HAt E un W0 S0 hb n x st w) (hn : n ≤ 60) (hG : ∀ m, kindG m ≠ hb) (hs : okS un.s = true) (hp : okP un.p = true) (ho : stepOk M un 8 x) : Calls Tryz.prog 73 #[.pointer (some ⟨hb, 0, none⟩)] w (FPost E un W0 S0 hb (n + 1) (stepH M un 8 x st)) := by
  have NA := hid (flag_go hH hn hG (adH un) x.ad (fun v => { x with ad := v }) 13 ho (fun _ _ => rfl) (fun _ _ _ => rfl) (fun _ => ⟨rfl, rfl⟩))
  have k21 := hH.cell (i := 21) (v := .bool un.idr) (fun _ _ => rfl)
  have k20 := hH.cell (i := 20) (v := .int .u8 un.ref) (fun _ _ => rfl)
  unfold FPost at NA ⊢
  rw [show stepH M un 8 x st = flagF M (adH un) x.ad (fun v => { x with ad := v }) st from rfl]
  generalize flagF M (adH un) x.ad (fun v => { x with ad := v }) st = r at *
  clear hH hs hp ho
  obtain ⟨h, hh⟩ : ∃ h, h = adH un := ⟨_, rfl⟩
  rw [← hh] at NA
  unfold adH at hh
  generalize un.ref = ref at *
  cases hi : un.idr with
  | true =>
    rw [hi] at k21 hh
    obtain rfl : h = false := by simpa using hh
    clear hh
    go_enter Tryz.func73, Tryz.ntmps73
    go_wp2_with fail
    go_still_tail 17, (by kernel_rfl)
    go_wp2_with fail
    refine (NA.out _ (by first | exact (Only.refl [] _).drewN _ | exact (Only.refl [] _).drew | exact Only.refl [] _)).mono ?_
    rintro e w3 ⟨rfl, hP⟩
    all_goals
      go_wp2_with fail
      go_ret
      exact ⟨rfl, hP⟩
  | false =>
    rw [hi] at k21 hh
    by_cases hr : 0 < ref
    · obtain rfl : h = true := by simpa [hr] using hh
      have hd : decide (0 < ref) = true := by simpa using hr
      clear hh hr
      go_enter Tryz.func73, Tryz.ntmps73
      go_wp2_with fail
      go_still_tail 17, (by kernel_rfl)
      go_wp2_with fail
      refine (NA.out _ (by first | exact (Only.refl [] _).drewN _ | exact (Only.refl [] _).drew | exact Only.refl [] _)).mono ?_
      rintro e w3 ⟨rfl, hP⟩
      all_goals
        go_wp2_with fail
        go_ret
        exact ⟨rfl, hP⟩
    · obtain rfl : h = false := by simpa [hr] using hh
      have hd : decide (0 < ref) = false := by simpa using hr
      clear hh hr
      go_enter Tryz.func73, Tryz.ntmps73
      go_wp2_with fail
      go_still_tail 17, (by kernel_rfl)
      go_wp2_with fail
      refine (NA.out _ (by first | exact (Only.refl [] _).drewN _ | exact (Only.refl [] _).drew | exact Only.refl [] _)).mono ?_
      rintro e w3 ⟨rfl, hP⟩
      all_goals
        go_wp2_with fail
        go_ret
        exact ⟨rfl, hP⟩
set_option maxRecDepth 100000 in
set_option maxHeartbeats 4000000 in
theorem finitial_any (hH : HAt E un W0 S0 hb n x st w) (hn : n ≤ 60) (hG : ∀ m, kindG m ≠ hb) (hs : okS un.s = true) (hp : okP un.p = true) (ho : stepOk M un 10 x) : Calls Tryz.prog 75 #[.pointer (some ⟨hb, 0, none⟩)] w (FPost E un W0 S0 hb (n + 1) (stepH M un 10 x st)) := by
  have NA := hid (num_go hH hn hG (iniH un x) (.ue 0 2) x.ini (fun v => { x with ini := v }) 15 cd3 ho (fun _ _ => rfl) (fun _ _ _ => rfl) (fun _ => ⟨rfl, rfl⟩))
  have k1 := hH.cell (i := 1) (v := .bool x.intra) (fun _ _ => rfl)
  have k24 := hH.cell (i := 24) (v := .bool un.p.cab) (fun _ _ => rfl)
  have CM := hid (fun w => ueC_any 0 2 w)
  unfold FPost at NA ⊢
  rw [show stepH M un 10 x st = numF M (iniH un x) x.ini (fun v => { x with ini := v }) (.ue 0 2) st from rfl]
  generalize numF M (iniH un x) x.ini (fun v => { x with ini := v }) (.ue 0 2) st = r at *
  clear hH hs hp ho
  obtain ⟨h, hh⟩ : ∃ h, h = iniH un x := ⟨_, rfl⟩
  rw [← hh] at NA
  unfold iniH at hh
  cases hi : x.intra with
  | true =>
    rw [hi] at k1 hh
    obtain rfl : h = false := by simpa using hh
    clear hh
    go_enter Tryz.func75, Tryz.ntmps75
    go_wp2_with fail
    refine wp_region_any (by kernel_rfl) ?_
    try (change wpAny _ _ _ _ _ _ _ (World.drew _))
    refine wpAny_take (i := 0) (v := ?_) rfl (by kernel_rfl) (by kernel_rfl) (by kernel_rfl) (fun _ _ _ h => h) (Or.inl ⟨by rfl, ?_⟩) ?_
    rotate_left
    · intro w'
      go_simp
      all_goals with_reducible rfl
    (try simp only [Act.put, List.getElem_toArray, List.getElem_cons_zero, List.getElem_cons_succ, List.setIfInBounds_toArray, List.set_cons_zero, List.set_cons_succ])
    refine wpAny_take (i := 1) (v := ?_) rfl (by kernel_rfl) (by kernel_rfl) (by kernel_rfl) (fun _ _ _ h => h) (Or.inl ⟨by rfl, ?_⟩) ?_
    rotate_left
    · intro w'
      go_simp
      all_goals with_reducible rfl
    (try simp only [Act.put, List.getElem_toArray, List.getElem_cons_zero, List.getElem_cons_succ, List.setIfInBounds_toArray, List.set_cons_zero, List.set_cons_succ])
    refine wpAny_take (i := 2) (v := ?_) rfl (by kernel_rfl) (by kernel_rfl) (by kernel_rfl) (fun _ _ _ h => h) (Or.inl ⟨by rfl, ?_⟩) ?_
    rotate_left
    · intro w'
      go_simp
      all_goals with_reducible rfl
    (try simp only [Act.put, List.getElem_toArray, List.getElem_cons_zero, List.getElem_cons_succ, List.setIfInBounds_toArray, List.set_cons_zero, List.set_cons_succ])
    refine wpAny_take (i := 3) (v := ?_) rfl (by kernel_rfl) (by kernel_rfl) (by kernel_rfl) (fun _ _ _ h => h) (Or.inl ⟨by rfl, ?_⟩) ?_
    rotate_left
    · intro w'
      go_simp
      all_goals with_reducible rfl
    (try simp only [Act.put, List.getElem_toArray, List.getElem_cons_zero, List.getElem_cons_succ, List.setIfInBounds_toArray, List.set_cons_zero, List.set_cons_succ])
    refine wpAny_take (i := 4) (v := ?_) rfl (by kernel_rfl) (by kernel_rfl) (by kernel_rfl) (fun _ _ _ h => h) (Or.inl ⟨by rfl, ?_⟩) ?_
    rotate_left
    · intro w'
      go_simp
      all_goals with_reducible rfl
    (try simp only [Act.put, List.getElem_toArray, List.getElem_cons_zero, List.getElem_cons_succ, List.setIfInBounds_toArray, List.set_cons_zero, List.set_cons_succ])
    refine wpAny_take (i := 14) (v := ?_) rfl (by kernel_rfl) (by kernel_rfl) (by kernel_rfl) (fun _ _ _ h => h) (Or.inl ⟨by rfl, ?_⟩) ?_
    rotate_left
    · intro w'
      go_simp
      all_goals with_reducible rfl
    (try simp only [Act.put, List.getElem_toArray, List.getElem_cons_zero, List.getElem_cons_succ, List.setIfInBounds_toArray, List.set_cons_zero, List.set_cons_succ])
    refine wpAny_take (i := 15) (v := ?_) rfl (by kernel_rfl) (by kernel_rfl) (by kernel_rfl) (fun _ _ _ h => h) (Or.inl ⟨by rfl, ?_⟩) ?_
    rotate_left
    · intro w'
      go_simp
      all_goals with_reducible rfl
    (try simp only [Act.put, List.getElem_toArray, List.getElem_cons_zero, List.getElem_cons_succ, List.setIfInBounds_toArray, List.set_cons_zero, List.set_cons_succ])
    refine wpAny_take (i := 16) (v := ?_) rfl (by kernel_rfl) (by kernel_rfl) (by kernel_rfl) (fun _ _ _ h => h) (Or.inl ⟨by rfl, ?_⟩) ?_
    rotate_left
    · intro w'
      go_simp
      all_goals with_reducible rfl
    (try simp only [Act.put, List.getElem_toArray, List.getElem_cons_zero, List.getElem_cons_succ, List.setIfInBounds_toArray, List.set_cons_zero, List.set_cons_succ])
    refine wpAny_take (i := 17) (v := ?_) rfl (by kernel_rfl) (by kernel_rfl) (by kernel_rfl) (fun _ _ _ h => h) (Or.inl ⟨by rfl, ?_⟩) ?_
    rotate_left
    · intro w'
      go_simp
      all_goals with_reducible rfl
    (try simp only [Act.put, List.getElem_toArray, List.getElem_cons_zero, List.getElem_cons_succ, List.setIfInBounds_toArray, List.set_cons_zero, List.set_cons_succ])
    refine wpAny_ready (rs := [5]) (by kernel_rfl) (by simp) ?_
    refine AllReady.cons rfl (fun K hK => ?_) AllReady.nil
    go_simp
    refine hK _ _ ?_
    clear hK K
    (try simp only [Act.put, List.getElem_toArray, List.getElem_cons_zero, List.getElem_cons_succ, List.setIfInBounds_toArray, List.set_cons_zero, List.set_cons_succ])
    refine wpAny_take (i := 6) (v := ?_) rfl (by kernel_rfl) (by kernel_rfl) (by kernel_rfl) (fun _ _ _ h => h) (Or.inl ⟨by rfl, ?_⟩) ?_
    rotate_left
    · intro w'
      go_simp
      all_goals with_reducible rfl
    (try simp only [Act.put, List.getElem_toArray, List.getElem_cons_zero, List.getElem_cons_succ, List.setIfInBounds_toArray, List.set_cons_zero, List.set_cons_succ])
    refine wpAny_take (i := 7) (v := ?_) rfl (by kernel_rfl) (by kernel_rfl) (by kernel_rfl) (fun _ _ _ h => h) (Or.inl ⟨by rfl, ?_⟩) ?_
    rotate_left
    · intro w'
      go_simp
      all_goals with_reducible rfl
    (try simp only [Act.put, List.getElem_toArray, List.getElem_cons_zero, List.getElem_cons_succ, List.setIfInBounds_toArray, List.set_cons_zero, List.set_cons_succ])
    refine wpAny_take (i := 8) (v := undef) rfl (by kernel_rfl) (by kernel_rfl) (by kernel_rfl) (fun _ _ _ h => h) (Or.inr ⟨by rfl, rfl⟩) ?_
    (try simp only [Act.put, List.getElem_toArray, List.getElem_cons_zero, List.getElem_cons_succ, List.setIfInBounds_toArray, List.set_cons_zero, List.set_cons_succ])
    refine wpAny_take (i := 9) (v := undef) rfl (by kernel_rfl) (by kernel_rfl) (by kernel_rfl) (fun _ _ _ h => h) (Or.inr ⟨by rfl, rfl⟩) ?_
    (try simp only [Act.put, List.getElem_toArray, List.getElem_cons_zero, List.getElem_cons_succ, List.setIfInBounds_toArray, List.set_cons_zero, List.set_cons_succ])
    refine wpAny_take (i := 10) (v := undef) rfl (by kernel_rfl) (by kernel_rfl) (by kernel_rfl) (fun _ _ _ h => h) (Or.inr ⟨by rfl, rfl⟩) ?_
    (try simp only [Act.put, List.getElem_toArray, List.getElem_cons_zero, List.getElem_cons_succ, List.setIfInBounds_toArray, List.set_cons_zero, List.set_cons_succ])
    refine wpAny_take (i := 11) (v := undef) rfl (by kernel_rfl) (by kernel_rfl) (by kernel_rfl) (fun _ _ _ h => h) (Or.inr ⟨by rfl, rfl⟩) ?_
    (try simp only [Act.put, List.getElem_toArray, List.getElem_cons_zero, List.getElem_cons_succ, List.setIfInBounds_toArray, List.set_cons_zero, List.set_cons_succ])
    refine wpAny_take (i := 12) (v := undef) rfl (by kernel_rfl) (by kernel_rfl) (by kernel_rfl) (fun _ _ _ h => h) (Or.inr ⟨by rfl, rfl⟩) ?_
    (try simp only [Act.put, List.getElem_toArray, List.getElem_cons_zero, List.getElem_cons_succ, List.setIfInBounds_toArray, List.set_cons_zero, List.set_cons_succ])
    refine wpAny_take (i := 13) (v := ?_) rfl (by kernel_rfl) (by kernel_rfl) (by kernel_rfl) (fun _ _ _ h => h) (Or.inl ⟨by rfl, ?_⟩) ?_
    rotate_left
    · intro w'
      go_simp
      all_goals with_reducible rfl
    (try simp only [Act.put, List.getElem_toArray, List.getElem_cons_zero, List.getElem_cons_succ, List.setIfInBounds_toArray, List.set_cons_zero, List.set_cons_succ])
    refine wpAny_ready (rs := [18]) (by kernel_rfl) (by simp) ?_
    refine AllReady.cons rfl (fun K hK => ?_) AllReady.nil
    go_simp
    go_wp2_with ((go_at_call 113; refine (CM.out _).mono ?_; rintro e w2 ⟨cv, K, rfl, hC, hKK, hO⟩; have O2 := hid (show Only [] w w2 from Only.trans (by first | exact (Only.refl [] _).drewN _ | exact (Only.refl [] _).drew | exact Only.refl [] _) hO)))
    (try (refine hK _ _ ?_))
    (try clear hK)
    (try clear K)
    (try simp only [Act.put, List.getElem_toArray, List.getElem_cons_zero, List.getElem_cons_succ, List.setIfInBounds_toArray, List.set_cons_zero, List.set_cons_succ])
    refine wpAny_ready (rs := [19]) (by kernel_rfl) (by simp) ?_
    refine AllReady.cons rfl (fun K hK => ?_) AllReady.nil
    go_simp
    go_wp2_with ((go_at_call 111; refine (NA.out _ _ _ O2.out hC hKK).mono ?_; rintro e w3 ⟨rfl, hP⟩))
    (try (refine hK _ _ ?_))
    (try clear hK)
    (try clear K)
    (try simp only [Act.put, List.getElem_toArray, List.getElem_cons_zero, List.getElem_cons_succ, List.setIfInBounds_toArray, List.set_cons_zero, List.set_cons_succ])
    refine wpAny_take (i := 20) (v := ?_) rfl (by kernel_rfl) (by kernel_rfl) (by kernel_rfl) (fun _ _ _ h => h) (Or.inl ⟨by rfl, ?_⟩) ?_
    rotate_left
    · intro w'
      go_simp
      all_goals with_reducible rfl
    (try simp only [Act.put, List.getElem_toArray, List.getElem_cons_zero, List.getElem_cons_succ, List.setIfInBounds_toArray, List.set_cons_zero, List.set_cons_succ])
    refine wpAny_done (by kernel_rfl) ?_ _
    all_goals
      go_wp2_with fail
      go_ret
      exact ⟨rfl, hP⟩
  | false =>
    rw [hi] at k1 hh
    obtain rfl : h = un.p.cab := by simpa using hh
    clear hh
    go_enter Tryz.func75, Tryz.ntmps75
    go_wp2_with fail
    go_region_with (first | (go_at_call 113; refine (CM.out _).mono ?_; rintro e w2 ⟨cv, K, rfl, hC, hK, hO⟩; have O2 := hid (show Only [] w w2 from Only.trans (by first | exact (Only.refl [] _).drewN _ | exact (Only.refl [] _).drew | exact Only.refl [] _) hO); have d1 := hO.cell k1 (by simp); have d24 := hO.cell k24 (by simp)) | (go_at_call 111; refine (NA.out _ _ _ O2.out hC hK).mono ?_; rintro e w3 ⟨rfl, hP⟩))
    all_goals
      go_wp2_with fail
      go_ret
      exact ⟨rfl, hP⟩
set_option maxRecDepth 100000 in
set_option maxHeartbeats 4000000 in
theorem fqp_any (hH : HAt E un W0 S0 hb n x st w) (hn : n ≤ 60) (hG : ∀ m, kindG m ≠ hb) (hs : okS un.s = true) (hp : okP un.p = true) (ho : stepOk M un 11 x) : Calls Tryz.prog 76 #[.pointer (some ⟨hb, 0, none⟩)] w (FPost E un W0 S0 hb (n + 1) (stepH M un 11 x st)) := by
  have CB := unOk_cd hs hp
  have NA := hid (num_go hH hn hG true (qpC un) x.qp (fun v => { x with qp := v }) 16 CB.2.2 (fun _ => ho) (fun _ _ => rfl) (fun _ _ _ => rfl) (fun _ => ⟨rfl, rfl⟩))
  have k27 := hH.cell (i := 27) (v := .int .i64 un.p.qp) (fun _ _ => rfl)
  have CM := hid (fun w => seC_any (-(26 + un.p.qp)) (51 - (26 + un.p.qp)) w)
  have b1 : 0 ≤ 26 + un.p.qp ∧ 26 + un.p.qp ≤ 51 := by
    unfold okP at hp
    simp only [Bool.and_eq_true] at hp
    have := inB_true hp.1.1.2
    omega
  obtain ⟨b1, b2⟩ := b1
  unfold FPost at NA ⊢
  rw [show stepH M un 11 x st = numF M true x.qp (fun v => { x with qp := v }) (qpC un) st from rfl]
  generalize numF M true x.qp (fun v => { x with qp := v }) (qpC un) st = r at *
  clear hH hs hp ho CB
  unfold qpC at NA
  generalize un.p.qp = z at *
  go_enter Tryz.func76, Tryz.ntmps76
  go_wp2_with fail
  have s1 : IntKind.i64.wrap (-(26 + z)) = -(26 + z) := IntWalk.i64_in _ ⟨by omega, by omega⟩
  have s2 : IntKind.i64.wrap (51 - (26 + z)) = 51 - (26 + z) := IntWalk.i64_in _ ⟨by omega, by omega⟩
  go_region_with (first | (go_at_call 118; refine (CM.out _).mono ?_; rintro e w2 ⟨cv, K, rfl, hC, hK, hO⟩; have O2 := hid (show Only [] w w2 from Only.trans (by first | exact (Only.refl [] _).drewN _ | exact (Only.refl [] _).drew | exact Only.refl [] _) hO)) | (go_at_call 111; refine (NA.out _ _ _ O2.out hC hK).mono ?_; rintro e w3 ⟨rfl, hP⟩))
  all_goals
    go_wp2_with fail
    go_ret
    exact ⟨rfl, hP⟩
set_option maxRecDepth 100000 in
set_option maxHeartbeats 4000000 in
theorem offset_any {Q : Ending → World → Prop} {R : Int} {Z : World → Prop} (hb i : Nat) (db : Bool) (fil : Int) (w : World) (k30 : w.cell? ⟨hb, 30, none⟩ = some (.bool db)) (k17 : w.cell? ⟨hb, 17, none⟩ = some (.int .i64 fil))
    (NA : ∀ w1 cv K, Only [] w w1 → CdAt w1 cv K (.se (-6) 6) → w.heap.size ≤ K → Calls Tryz.prog 111 #[.pointer (some ⟨hb, 0, none⟩), .bool (db && decide (fil ≠ 1)), .pointer (some ⟨hb, i, none⟩), cv] w1 fun e w' => e = .returned (.int .i64 R) ∧ Z w') :
    Calls Tryz.prog 119 #[.pointer (some ⟨hb, 0, none⟩), .pointer (some ⟨hb, i, none⟩)] w fun e w' => e = .returned (.int .i64 R) ∧ Z w' := by
  replace NA := hid NA
  have CM := hid (fun w => seC_any (-6) 6 w)
  obtain ⟨h, hh⟩ : ∃ h, h = (db && decide (fil ≠ 1)) := ⟨_, rfl⟩
  rw [← hh] at NA
  cases db with
  | false =>
    obtain rfl : h = false := by simpa using hh
    clear hh
    go_enter Tryz.func119, Tryz.ntmps119
    go_wp2_with fail
    refine wp_region_any (by kernel_rfl) ?_
    try (change wpAny _ _ _ _ _ _ _ (World.drew _))
    refine wpAny_take (i := 0) (v := ?_) rfl (by kernel_rfl) (by kernel_rfl) (by kernel_rfl) (fun _ _ _ h => h) (Or.inl ⟨by rfl, ?_⟩) ?_
    rotate_left
    · intro w'
      go_simp
      all_goals with_reducible rfl
    (try simp only [Act.put, List.getElem_toArray, List.getElem_cons_zero, List.getElem_cons_succ, List.setIfInBounds_toArray, List.set_cons_zero, List.set_cons_succ])
    refine wpAny_take (i := 1) (v := ?_) rfl (by kernel_rfl) (by kernel_rfl) (by kernel_rfl) (fun _ _ _ h => h) (Or.inl ⟨by rfl, ?_⟩) ?_
    rotate_left
    · intro w'
      go_simp
      all_goals with_reducible rfl
    (try simp only [Act.put, List.getElem_toArray, List.getElem_cons_zero, List.getElem_cons_succ, List.setIfInBounds_toArray, List.set_cons_zero, List.set_cons_succ])
    refine wpAny_take (i := 2) (v := ?_) rfl (by kernel_rfl) (by kernel_rfl) (by kernel_rfl) (fun _ _ _ h => h) (Or.inl ⟨by rfl, ?_⟩) ?_
    rotate_left
    · intro w'
      go_simp
      all_goals with_reducible rfl
    (try simp only [Act.put, List.getElem_toArray, List.getElem_cons_zero, List.getElem_cons_succ, List.setIfInBounds_toArray, List.set_cons_zero, List.set_cons_succ])
    refine wpAny_take (i := 3) (v := ?_) rfl (by kernel_rfl) (by kernel_rfl) (by kernel_rfl) (fun _ _ _ h => h) (Or.inl ⟨by rfl, ?_⟩) ?_
    rotate_left
    · intro w'
      go_simp
      all_goals with_reducible rfl
    (try simp only [Act.put, List.getElem_toArray, List.getElem_cons_zero, List.getElem_cons_succ, List.setIfInBounds_toArray, List.set_cons_zero, List.set_cons_succ])
    refine wpAny_take (i := 4) (v := ?_) rfl (by kernel_rfl) (by kernel_rfl) (by kernel_rfl) (fun _ _ _ h => h) (Or.inl ⟨by rfl, ?_⟩) ?_
    rotate_left
    · intro w'
      go_simp
      all_goals with_reducible rfl
    (try simp only [Act.put, List.getElem_toArray, List.getElem_cons_zero, List.getElem_cons_succ, List.setIfInBounds_toArray, List.set_cons_zero, List.set_cons_succ])
    refine wpAny_take (i := 14) (v := ?_) rfl (by kernel_rfl) (by kernel_rfl) (by kernel_rfl) (fun _ _ _ h => h) (Or.inl ⟨by rfl, ?_⟩) ?_
    rotate_left
    · intro w'
      go_simp
      all_goals with_reducible rfl
    (try simp only [Act.put, List.getElem_toArray, List.getElem_cons_zero, List.getElem_cons_succ, List.setIfInBounds_toArray, List.set_cons_zero, List.set_cons_succ])
    refine wpAny_ready (rs := [5]) (by kernel_rfl) (by simp) ?_
    refine AllReady.cons rfl (fun K hK => ?_) AllReady.nil
    go_simp
    refine hK _ _ ?_
    clear hK K
    (try simp only [Act.put, List.getElem_toArray, List.getElem_cons_zero, List.getElem_cons_succ, List.setIfInBounds_toArray, List.set_cons_zero, List.set_cons_succ])
    refine wpAny_take (i := 6) (v := ?_) rfl (by kernel_rfl) (by kernel_rfl) (by kernel_rfl) (fun _ _ _ h => h) (Or.inl ⟨by rfl, ?_⟩) ?_
    rotate_left
    · intro w'
      go_simp
      all_goals with_reducible rfl
    (try simp only [Act.put, List.getElem_toArray, List.getElem_cons_zero, List.getElem_cons_succ, List.setIfInBounds_toArray, List.set_cons_zero, List.set_cons_succ])
    refine wpAny_take (i := 7) (v := undef) rfl (by kernel_rfl) (by kernel_rfl) (by kernel_rfl) (fun _ _ _ h => h) (Or.inr ⟨by rfl, rfl⟩) ?_
    (try simp only [Act.put, List.getElem_toArray, List.getElem_cons_zero, List.getElem_cons_succ, List.setIfInBounds_toArray, List.set_cons_zero, List.set_cons_succ])
    refine wpAny_take (i := 8) (v := undef) rfl (by kernel_rfl) (by kernel_rfl) (by kernel_rfl) (fun _ _ _ h => h) (Or.inr ⟨by rfl, rfl⟩) ?_
    (try simp only [Act.put, List.getElem_toArray, List.getElem_cons_zero, List.getElem_cons_succ, List.setIfInBounds_toArray, List.set_cons_zero, List.set_cons_succ])
    refine wpAny_take (i := 9) (v := undef) rfl (by kernel_rfl) (by kernel_rfl) (by kernel_rfl) (fun _ _ _ h => h) (Or.inr ⟨by rfl, rfl⟩) ?_
    (try simp only [Act.put, List.getElem_toArray, List.getElem_cons_zero, List.getElem_cons_succ, List.setIfInBounds_toArray, List.set_cons_zero, List.set_cons_succ])
    refine wpAny_take (i := 10) (v := undef) rfl (by kernel_rfl) (by kernel_rfl) (by kernel_rfl) (fun _ _ _ h => h) (Or.inr ⟨by rfl, rfl⟩) ?_
    (try simp only [Act.put, List.getElem_toArray, List.getElem_cons_zero, List.getElem_cons_succ, List.setIfInBounds_toArray, List.set_cons_zero, List.set_cons_succ])
    refine wpAny_take (i := 11) (v := undef) rfl (by kernel_rfl) (by kernel_rfl) (by kernel_rfl) (fun _ _ _ h => h) (Or.inr ⟨by rfl, rfl⟩) ?_
    (try simp only [Act.put, List.getElem_toArray, List.getElem_cons_zero, List.getElem_cons_succ, List.setIfInBounds_toArray, List.set_cons_zero, List.set_cons_succ])
    refine wpAny_take (i := 12) (v := undef) rfl (by kernel_rfl) (by kernel_rfl) (by kernel_rfl) (fun _ _ _ h => h) (Or.inr ⟨by rfl, rfl⟩) ?_
    (try simp only [Act.put, List.getElem_toArray, List.getElem_cons_zero, List.getElem_cons_succ, List.setIfInBounds_toArray, List.set_cons_zero, List.set_cons_succ])
    refine wpAny_take (i := 13) (v := ?_) rfl (by kernel_rfl) (by kernel_rfl) (by kernel_rfl) (fun _ _ _ h => h) (Or.inl ⟨by rfl, ?_⟩) ?_
    rotate_left
    · intro w'
      go_simp
      all_goals with_reducible rfl
    (try simp only [Act.put, List.getElem_toArray, List.getElem_cons_zero, List.getElem_cons_succ, List.setIfInBounds_toArray, List.set_cons_zero, List.set_cons_succ])
    refine wpAny_ready (rs := [15]) (by kernel_rfl) (by simp) ?_
    refine AllReady.cons rfl (fun K hK => ?_) AllReady.nil
    go_simp
    go_wp2_with ((go_at_call 118; refine (CM.out _).mono ?_; rintro e w2 ⟨cv, K, rfl, hC, hKK, hO⟩; have O2 := hid (show Only [] w w2 from Only.trans (by first | exact (Only.refl [] _).drewN _ | exact (Only.refl [] _).drew | exact Only.refl [] _) hO)))
    (try (refine hK _ _ ?_))
    (try clear hK)
    (try clear K)
    (try simp only [Act.put, List.getElem_toArray, List.getElem_cons_zero, List.getElem_cons_succ, List.setIfInBounds_toArray, List.set_cons_zero, List.set_cons_succ])
    refine wpAny_ready (rs := [16]) (by kernel_rfl) (by simp) ?_
    refine AllReady.cons rfl (fun K hK => ?_) AllReady.nil
    go_simp
    go_wp2_with ((go_at_call 111; refine (NA.out _ _ _ O2.out hC hKK).mono ?_; rintro e w3 ⟨rfl, hP⟩))
    (try (refine hK _ _ ?_))
    (try clear hK)
    (try clear K)
    (try simp only [Act.put, List.getElem_toArray, List.getElem_cons_zero, List.getElem_cons_succ, List.setIfInBounds_toArray, List.set_cons_zero, List.set_cons_succ])
    refine wpAny_take (i := 17) (v := ?_) rfl (by kernel_rfl) (by kernel_rfl) (by kernel_rfl) (fun _ _ _ h => h) (Or.inl ⟨by rfl, ?_⟩) ?_
    rotate_left
    · intro w'
      go_simp
      all_goals with_reducible rfl
    (try simp only [Act.put, List.getElem_toArray, List.getElem_cons_zero, List.getElem_cons_succ, List.setIfInBounds_toArray, List.set_cons_zero, List.set_cons_succ])
    refine wpAny_done (by kernel_rfl) ?_ _
    go_wp2_with fail
    go_ret
    exact ⟨rfl, hP⟩
  | true =>
    by_cases hf : fil = 1
    · subst hf
      obtain rfl : h = false := by simpa using hh
      clear hh
      go_enter Tryz.func119, Tryz.ntmps119
      go_wp2_with fail
      go_region_with (first | (go_at_call 118; refine (CM.out _).mono ?_; rintro e w2 ⟨cv, K, rfl, hC, hKK, hO⟩; have O2 := hid (show Only [] w w2 from Only.trans (by first | exact (Only.refl [] _).drewN _ | exact (Only.refl [] _).drew | exact Only.refl [] _) hO); have d30 := hO.cell k30 (by simp); have d17 := hO.cell k17 (by simp)) | (go_at_call 111; refine (NA.out _ _ _ O2.out hC hKK).mono ?_; rintro e w3 ⟨rfl, hP⟩))
      all_goals
        go_wp2_with fail
        go_ret
        exact ⟨rfl, hP⟩
    · obtain rfl : h = true := by simpa [hf] using hh
      have hd : (fil != 1) = true := by simpa using hf
      clear hh hf
      go_enter Tryz.func119, Tryz.ntmps119
      go_wp2_with fail
      go_region_with (first | (go_at_call 118; refine (CM.out _).mono ?_; rintro e w2 ⟨cv, K, rfl, hC, hKK, hO⟩; have O2 := hid (show Only [] w w2 from Only.trans (by first | exact (Only.refl [] _).drewN _ | exact (Only.refl [] _).drew | exact Only.refl [] _) hO); have d30 := hO.cell k30 (by simp); have d17 := hO.cell k17 (by simp)) | (go_at_call 111; refine (NA.out _ _ _ O2.out hC hKK).mono ?_; rintro e w3 ⟨rfl, hP⟩))
      all_goals
        go_wp2_with fail
        go_ret
        exact ⟨rfl, hP⟩
set_option maxHeartbeats 2000000 in
theorem fa_any (hH : HAt E un W0 S0 hb n x st w) (hn : n ≤ 60) (hG : ∀ m, kindG m ≠ hb) (hs : okS un.s = true) (hp : okP un.p = true) (ho : stepOk M un 13 x) : Calls Tryz.prog 78 #[.pointer (some ⟨hb, 0, none⟩)] w (FPost E un W0 S0 hb (n + 1) (stepH M un 13 x st)) := by
  have NA := num_go hH hn hG (fltH un x) (.se (-6) 6) x.a (fun v => { x with a := v }) 18 cd4 ho (fun _ _ => rfl) (fun _ _ _ => rfl) (fun _ => ⟨rfl, rfl⟩)
  have k30 := hH.cell (i := 30) (v := .bool un.p.db) (fun _ _ => rfl)
  have k17 := hH.cell (i := 17) (v := .int .i64 x.fil) (fun _ _ => rfl)
  unfold FPost at NA ⊢
  rw [show stepH M un 13 x st = numF M (fltH un x) x.a (fun v => { x with a := v }) (.se (-6) 6) st from rfl]
  generalize numF M (fltH un x) x.a (fun v => { x with a := v }) (.se (-6) 6) st = r at *
  have OF := hid (offset_any (Q := fun _ _ => True) hb 18 un.p.db x.fil w k30 k17 NA)
  clear hH hs hp ho NA k30 k17
  go_enter Tryz.func78, Tryz.ntmps78
  go_wp2_with fail
  refine OF.out.mono ?_
  rintro e w2 ⟨rfl, hP⟩
  go_wp2_with fail
  go_ret
  exact ⟨rfl, hP⟩
set_option maxHeartbeats 2000000 in
theorem fb_any (hH : HAt E un W0 S0 hb n x st w) (hn : n ≤ 60) (hG : ∀ m, kindG m ≠ hb) (hs : okS un.s = true) (hp : okP un.p = true) (ho : stepOk M un 14 x) : Calls Tryz.prog 79 #[.pointer (some ⟨hb, 0, none⟩)] w (FPost E un W0 S0 hb (n + 1) (stepH M un 14 x st)) := by
  have NA := num_go hH hn hG (fltH un x) (.se (-6) 6) x.b (fun v => { x with b := v }) 19 cd4 ho (fun _ _ => rfl) (fun _ _ _ => rfl) (fun _ => ⟨rfl, rfl⟩)
  have k30 := hH.cell (i := 30) (v := .bool un.p.db) (fun _ _ => rfl)
  have k17 := hH.cell (i := 17) (v := .int .i64 x.fil) (fun _ _ => rfl)
  unfold FPost at NA ⊢
  rw [show stepH M un 14 x st = numF M (fltH un x) x.b (fun v => { x with b := v }) (.se (-6) 6) st from rfl]
  generalize numF M (fltH un x) x.b (fun v => { x with b := v }) (.se (-6) 6) st = r at *
  have OF := hid (offset_any (Q := fun _ _ => True) hb 19 un.p.db x.fil w k30 k17 NA)
  clear hH hs hp ho NA k30 k17
  go_enter Tryz.func79, Tryz.ntmps79
  go_wp2_with fail
  refine OF.out.mono ?_
  rintro e w2 ⟨rfl, hP⟩
  go_wp2_with fail
  go_ret
  exact ⟨rfl, hP⟩
set_option maxRecDepth 100000 in
set_option maxHeartbeats 4000000 in
theorem fflags_any (hH : HAt E un W0 S0 hb n x st w) (hn : n + 1 ≤ 60) (hG : ∀ m, kindG m ≠ hb) (ho : stepOk M un 7 x) : Calls Tryz.prog 72 #[.pointer (some ⟨hb, 0, none⟩)] w (FPost E un W0 S0 hb (n + 2) (stepH M un 7 x st)) := by
  have F1 := hid (fun wr (h : HAt E un W0 S0 hb n x st wr) => flag_go h (by omega) hG un.idr x.f0 (fun v => { x with f0 := v }) 11 (fun e => (ho e).1) (fun _ _ => rfl) (fun _ _ _ => rfl) (fun _ => ⟨rfl, rfl⟩))
  have K1 := hid (fun wr (h : HAt E un W0 S0 hb n x st wr) => h.cell (i := 21) (v := .bool un.idr) (fun _ _ => rfl))
  have hx1 : ∃ b, (flagF M un.idr x.f0 (fun v => { x with f0 := v }) st).2.1 = { x with f0 := b } := by
    unfold flagF
    split <;> exact ⟨_, rfl⟩
  rw [stepH_seven]
  unfold FPost at F1 ⊢
  generalize flagF M un.idr x.f0 (fun v => { x with f0 := v }) st = r at *
  obtain ⟨b, hb1⟩ := hx1
  obtain ⟨r1, x1, r3⟩ := r
  dsimp only at hb1 F1 ⊢
  have F2 := hid (fun wr (h : HAt E un W0 S0 hb (n + 1) x1 r3 wr) => flag_go h hn hG un.idr x1.f1 (fun v => { x1 with f1 := v }) 12 (fun e => by rw [hb1]; exact (ho e).2) (fun _ _ => rfl) (fun _ _ _ => rfl) (fun _ => ⟨rfl, rfl⟩))
  have K2 := hid (fun wr (h : HAt E un W0 S0 hb (n + 1) x1 r3 wr) => h.cell (i := 21) (v := .bool un.idr) (fun _ _ => rfl))
  unfold FPost thenF at *
  dsimp only at F2 ⊢
  generalize flagF M un.idr x1.f1 (fun v => { x1 with f1 := v }) r3 = s at *
  obtain ⟨s1, x2, s3⟩ := s
  dsimp only at F2 ⊢
  have HH := hid hH
  obtain ⟨z, hz⟩ : ∃ z, z = (if r1 ≠ 0 then (r1, x1, r3) else (s1, x2, s3)) := ⟨_, rfl⟩
  rw [← hz]
  obtain ⟨z1, z2, z3⟩ := z
  have Z := hid hz
  clear hH ho hb1 hz
  dsimp only
  generalize un.idr = idr at *
  go_enter Tryz.func72, Tryz.ntmps72
  go_wp2_with fail
  go_loopg [5] 2 (fun g t wr => ∃ i : Nat, i + g = 2 ∧ t = .int .i64 i ∧ (i = 0 ∧ HAt E un W0 S0 hb n x st wr ∨ i = 1 ∧ r1 = 0 ∧ HAt E un W0 S0 hb (n + 1) x1 r3 wr ∨ i = 2 ∧ r1 = 0 ∧ s1 = 0 ∧ HAt E un W0 S0 hb (n + 2) x2 s3 wr))
  case atStart => exact ⟨0, by omega, rfl, .inl ⟨rfl, HH.out⟩⟩
  case round =>
    obtain ⟨i, hi, rfl, hs⟩ := hrel
    rcases hs with ⟨rfl, hA⟩ | ⟨rfl, hr, hA⟩ | ⟨rfl, hr, hs, hA⟩
    · obtain rfl : gk = 2 := by omega
      clear hi
      have FA := hid (F1.out wr hA)
      have k21 := K1.out wr hA
      clear hA
      go_wp2_with fail
      go_region_with ((go_at_call 114; refine (FA.out _ (by first | exact (Only.refl [] _).drewN _ | exact (Only.refl [] _).drew | exact Only.refl [] _)).mono ?_; rintro e w3 ⟨rfl, hP⟩))
      all_goals
        clear FA k21
        by_cases hr : r1 = 0
        · have HR := hid hr
          subst hr
          go_wp2_with fail
          go_roundg 1
          case measure => omega
          case rel => exact ⟨1, by omega, by first | rfl | trivial, .inr (.inl ⟨by first | rfl | trivial, by first | rfl | trivial, hP⟩)⟩
        · have HR := hid hr
          go_wp2_with fail
          go_ret
          have hz := Z.out
          rw [if_pos HR.out] at hz
          cases hz
          exact ⟨rfl, hP.mono⟩
    · obtain rfl : gk = 1 := by omega
      clear hi
      have HR := hid hr
      have FA := hid (F2.out wr hA)
      have k21 := K2.out wr hA
      clear hA hr
      go_wp2_with fail
      go_region_with ((go_at_call 114; refine (FA.out _ (by first | exact (Only.refl [] _).drewN _ | exact (Only.refl [] _).drew | exact Only.refl [] _)).mono ?_; rintro e w3 ⟨rfl, hP⟩))
      all_goals
        clear FA k21
        by_cases hs : s1 = 0
        · subst hs
          go_wp2_with fail
          go_roundg 0
          case measure => omega
          case rel => exact ⟨2, by omega, by first | rfl | trivial, .inr (.inr ⟨by first | rfl | trivial, HR.out, by first | rfl | trivial, hP⟩)⟩
        · have HS := hid hs
          go_wp2_with fail
          go_ret
          have hz := Z.out
          rw [if_neg (fun k => k HR.out)] at hz
          cases hz
          exact ⟨rfl, hP⟩
    · obtain rfl : gk = 0 := by omega
      clear hi
      have HR := hid hr
      have HS := hid hs
      have HP := hid hA
      clear hA hr hs
      go_wp2_with fail
      go_ret
      have hz := Z.out
      rw [if_neg (fun k => k HR.out)] at hz
      cases hz
      exact ⟨ret_int HS.out.symm, HP.out⟩
end
end Go.Proofs.YtjjjfmnhdnajkaaGreatDoor

end

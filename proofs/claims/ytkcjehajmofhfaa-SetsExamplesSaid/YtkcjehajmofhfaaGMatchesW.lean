/- SetsMatches: the walk. -/
import Derived.Test.YtkcjehajmofhfaaSeB
import Derived.Test.YtkcjehajmofhfaaGLatestM
namespace Go.Proofs.Ytkcjehajmofhfaa
open Go.RowKit Go.Maps
set_option linter.unusedVariables false

theorem apA_grown {w : World} {L L' M : List Nat} (d : ∀ y, y ∈ L → y ∉ M) (hl : ∀ y, y ∈ L' → y ∈ L ∨ w.heap.size ≤ y) (hM : ∀ y, y ∈ M → y < w.heap.size) : ∀ y, y ∈ L' → y ∉ M := fun y hy hm => by
  rcases hl y hy with h | h
  · exact d y h hm
  · have := hM y hm; omega
theorem apA_symm {L M : List Nat} (d : ∀ y, y ∈ L → y ∉ M) : ∀ y, y ∈ M → y ∉ L := fun y hm hl => d y hl hm
/-- The program's store and the reference's. -/
structure Mt (W w : World) (s r n : Nat) (Ls Lr : List Nat) (ls : List SV) (lp : List PV) : Prop where
  s : StL w s Ls (fS ls) (fP lp) n
  r : RStL w r Lr ls lp
  ks : ∀ y, y ∈ Ls → W.heap.size ≤ y
  kr : ∀ y, y ∈ Lr → W.heap.size ≤ y
  d : ∀ y, y ∈ Ls → y ∉ Lr
  l1 : ls.length ≤ n
  l2 : lp.length ≤ n
  o : Only [] W w
def Mat (W w : World) (s r n : Nat) : Prop := ∃ Ls Lr ls lp, Mt W w s r n Ls Lr ls lp
section
variable {W w wa wb : World} {s r n n' : Nat} {Ls Lr La Lb : List Nat} {ls ls' : List SV} {lp lp' : List PV}
theorem Mt.only (h : Mt W w s r n Ls Lr ls lp) (k : Only [] w wa) : Mt W wa s r n Ls Lr ls lp :=
  ⟨h.s.only k (by simp), h.r.only k (by simp), h.ks, h.kr, h.d, h.l1, h.l2, h.o.trans k⟩
theorem Mt.mono (h : Mt W w s r n Ls Lr ls lp) (k : n ≤ n') : Mt W w s r n' Ls Lr ls lp :=
  ⟨h.s.mono k, h.r, h.ks, h.kr, h.d, Nat.le_trans h.l1 k, Nat.le_trans h.l2 k, h.o⟩
/-- First the program's put, then the reference's. -/
theorem Mt.sr (h : Mt W w s r n Ls Lr ls lp) (sa : StL wa s La (fS ls') (fP lp') n') (oa : Only Ls w wa) (la : ∀ y, y ∈ La → y ∈ Ls ∨ w.heap.size ≤ y)
    (rb : RStL wb r Lb ls' lp') (ob : Only Lr wa wb) (lb : ∀ y, y ∈ Lb → y ∈ Lr ∨ wa.heap.size ≤ y) (e1 : ls'.length ≤ n') (e2 : lp'.length ≤ n') : Mat W wb s r n' := by
  obtain ⟨o1, k1⟩ := own_step h.o h.ks oa la
  obtain ⟨o2, k2⟩ := own_step o1 h.kr ob lb
  have d1 := apA_grown h.d la h.r.lt
  exact ⟨La, Lb, ls', lp', sa.only ob d1, rb, k1, k2, apA_symm (apA_grown (apA_symm d1) lb sa.lt), e1, e2, o2⟩
/-- First the reference's, then the program's. -/
theorem Mt.rs (h : Mt W w s r n Ls Lr ls lp) (ra : RStL wa r La ls' lp') (oa : Only Lr w wa) (la : ∀ y, y ∈ La → y ∈ Lr ∨ w.heap.size ≤ y)
    (sb : StL wb s Lb (fS ls') (fP lp') n') (ob : Only Ls wa wb) (lb : ∀ y, y ∈ Lb → y ∈ Ls ∨ wa.heap.size ≤ y) (e1 : ls'.length ≤ n') (e2 : lp'.length ≤ n') : Mat W wb s r n' := by
  obtain ⟨o1, k1⟩ := own_step h.o h.kr oa la
  obtain ⟨o2, k2⟩ := own_step o1 h.ks ob lb
  have d1 := apA_grown (apA_symm h.d) la h.s.lt
  exact ⟨Lb, La, ls', lp', sb, ra.only ob d1, k2, k1, apA_grown (apA_symm d1) lb ra.lt, e1, e2, o2⟩
end
theorem aAt_s {w : World} {b o : Nat} {x : AV} (h : CellsAt aCl w b o x) : SAt w b (o + 1) x.s := ⟨by have a := h 1 _ rfl; simpa [Nat.add_assoc] using a, by have a := h 2 _ rfl; simpa [Nat.add_assoc] using a, by have a := h 3 _ rfl; simpa [Nat.add_assoc] using a, by have a := h 4 _ rfl; simpa [Nat.add_assoc] using a, by have a := h 5 _ rfl; simpa [Nat.add_assoc] using a, by have a := h 6 _ rfl; simpa [Nat.add_assoc] using a, by have a := h 7 _ rfl; simpa [Nat.add_assoc] using a, by have a := h 8 _ rfl; simpa [Nat.add_assoc] using a, by have a := h 9 _ rfl; simpa [Nat.add_assoc] using a⟩
theorem aAt_p {w : World} {b o : Nat} {x : AV} (h : CellsAt aCl w b o x) : PAt w b (o + 10) x.p := ⟨by have a := h 10 _ rfl; simpa [Nat.add_assoc] using a, by have a := h 11 _ rfl; simpa [Nat.add_assoc] using a, by have a := h 12 _ rfl; simpa [Nat.add_assoc] using a, by have a := h 13 _ rfl; simpa [Nat.add_assoc] using a, by have a := h 14 _ rfl; simpa [Nat.add_assoc] using a, by have a := h 15 _ rfl; simpa [Nat.add_assoc] using a, by have a := h 16 _ rfl; simpa [Nat.add_assoc] using a, by have a := h 17 _ rfl; simpa [Nat.add_assoc] using a, by have a := h 18 _ rfl; simpa [Nat.add_assoc] using a, by have a := h 19 _ rfl; simpa [Nat.add_assoc] using a⟩
theorem aAt_all {w : World} {b o : Nat} {x : AV} (h : CellsAt aCl w b o x) : w.cell? ⟨b, o, none⟩ = some (.int .u8 x.wh) ∧ w.cell? ⟨b, o + 1, none⟩ = some (.int .u8 x.s.pr) ∧ w.cell? ⟨b, o + 2, none⟩ = some (.int .u8 x.s.fl) ∧ w.cell? ⟨b, o + 3, none⟩ = some (.int .u8 x.s.lv) ∧ w.cell? ⟨b, o + 4, none⟩ = some (.int .i64 x.s.id) ∧ w.cell? ⟨b, o + 5, none⟩ = some (.int .i64 x.s.fb) ∧ w.cell? ⟨b, o + 6, none⟩ = some (.int .i64 x.s.pb) ∧ w.cell? ⟨b, o + 7, none⟩ = some (.int .i64 x.s.rf) ∧ w.cell? ⟨b, o + 8, none⟩ = some (.int .i64 x.s.wd) ∧ w.cell? ⟨b, o + 9, none⟩ = some (.int .i64 x.s.ht) ∧ w.cell? ⟨b, o + 10, none⟩ = some (.int .i64 x.p.id) ∧ w.cell? ⟨b, o + 11, none⟩ = some (.int .i64 x.p.sps) ∧ w.cell? ⟨b, o + 12, none⟩ = some (.bool x.p.cab) ∧ w.cell? ⟨b, o + 13, none⟩ = some (.int .i64 x.p.rf) ∧ w.cell? ⟨b, o + 14, none⟩ = some (.int .i64 x.p.r1) ∧ w.cell? ⟨b, o + 15, none⟩ = some (.int .i64 x.p.qp) ∧ w.cell? ⟨b, o + 16, none⟩ = some (.int .i64 x.p.qs) ∧ w.cell? ⟨b, o + 17, none⟩ = some (.int .i64 x.p.ch) ∧ w.cell? ⟨b, o + 18, none⟩ = some (.bool x.p.db) ∧ w.cell? ⟨b, o + 19, none⟩ = some (.bool x.p.nt) ∧ w.cell? ⟨b, o + 20, none⟩ = some (.int .i64 x.id) :=
  ⟨h 0 _ rfl, h 1 _ rfl, h 2 _ rfl, h 3 _ rfl, h 4 _ rfl, h 5 _ rfl, h 6 _ rfl, h 7 _ rfl, h 8 _ rfl, h 9 _ rfl, h 10 _ rfl, h 11 _ rfl, h 12 _ rfl, h 13 _ rfl, h 14 _ rfl, h 15 _ rfl, h 16 _ rfl, h 17 _ rfl, h 18 _ rfl, h 19 _ rfl, h 20 _ rfl⟩
theorem act_new (w : World) (T : TypeId) (x : AV) : CellsAt aCl (w.alloc (.cells #[.int .u8 x.wh, .int .u8 x.s.pr, .int .u8 x.s.fl, .int .u8 x.s.lv, .int .i64 x.s.id, .int .i64 x.s.fb, .int .i64 x.s.pb, .int .i64 x.s.rf, .int .i64 x.s.wd, .int .i64 x.s.ht, .int .i64 x.p.id, .int .i64 x.p.sps, .bool x.p.cab, .int .i64 x.p.rf, .int .i64 x.p.r1, .int .i64 x.p.qp, .int .i64 x.p.qs, .int .i64 x.p.ch, .bool x.p.db, .bool x.p.nt, .int .i64 x.id] T)) w.heap.size 0 x := fun k v hk => by
  have e : (#[.int .u8 x.wh, .int .u8 x.s.pr, .int .u8 x.s.fl, .int .u8 x.s.lv, .int .i64 x.s.id, .int .i64 x.s.fb, .int .i64 x.s.pb, .int .i64 x.s.rf, .int .i64 x.s.wd, .int .i64 x.s.ht, .int .i64 x.p.id, .int .i64 x.p.sps, .bool x.p.cab, .int .i64 x.p.rf, .int .i64 x.p.r1, .int .i64 x.p.qp, .int .i64 x.p.qs, .int .i64 x.p.ch, .bool x.p.db, .bool x.p.nt, .int .i64 x.id] : Array Value) = (aCl x).toArray := rfl
  rw [World.cell?_alloc_new, e, Nat.zero_add]
  simpa using hk
theorem agg_act (w : World) : (isAgg 32).run Try.prog w = .ok true w := by kernel_rfl
theorem size_act (w : World) : (sizeOf 32).run Try.prog w = .ok 21 w := by kernel_rfl
theorem info_act : (Try.prog.info? 32).map (·.size) = some 21 := by kernel_rfl
theorem aCl_len (x : AV) : (aCl x).length = 21 := rfl
/-- A call is loaded; its value is a letter. -/
theorem load_act {w : World} {ops : Array Oper} {rest : List Oper} {o : Oper} {a : Act} {Q : Exit → Act → World → Prop} (hg : o.guard = none) (x : Operand) (ho : o.op = .load 32 x) (b off : Nat) (y : AV)
    (hx : a.eval x = .pointer (some ⟨b, off, none⟩)) (hc : CellsAt aCl w b off y) (h : ∀ v, v = .agg (aCl y).toArray → wpList Try.prog ops Q rest (a.put o.dst v) w) : wpList Try.prog ops Q (o :: rest) a w := by
  refine wpList_plain hg fun K hK => ?_
  have add : ∀ k : Nat, (⟨b, off, none⟩ : Addr).add k = ⟨b, off + k, none⟩ := fun k => by cases k <;> simp [Addr.add]
  have hl := run_loadCells_list (P := Try.prog) w ⟨b, off, none⟩ (aCl y) (fun j v hj => by rw [add]; exact hc j v hj)
  rw [aCl_len] at hl
  unfold Oper.wp execOp
  simp only [ho, hx, Instr.loadAt, Instr.sureAddr, Sem.run_bind, Sem.run_pure, Result.andThen_ok, loadVar]
  simp [hl, Result.andThen]
  exact hK _ _ (by simpa using h _ rfl)
/-- .. and stored in a block that is new. -/
theorem store_act {w : World} {ops : Array Oper} {rest : List Oper} {o : Oper} {a : Act} {Q : Exit → Act → World → Prop} (hg : o.guard = none) (x y : Operand) (ho : o.op = .store 32 x y) (zs : Array Value) (T : TypeId) (hz : zs.size = 21) (z : AV) (v : Value)
    (hx : a.eval x = .pointer (some ⟨w.heap.size, 0, none⟩)) (hy : a.eval y = v) (hv : v = .agg (aCl z).toArray)
    (h : ∀ w', CellsAt aCl w' w.heap.size 0 z → Only [] w w' → wpList Try.prog ops Q rest (a.put o.dst undef) w') : wpList Try.prog ops Q (o :: rest) a (w.alloc (.cells zs T)) := by
  subst hv
  have hc : ∀ j, j < (aCl z).length → ((w.alloc (.cells zs T)).cell? ⟨w.heap.size, 0 + 0 + j, none⟩).isSome = true := fun j hj => by
    rw [aCl_len] at hj
    rw [Nat.zero_add, World.cell?_alloc_new, Array.getElem?_eq_getElem (by omega)]
    rfl
  refine wpList_store_set hg 32 x y ho w.heap.size 0 (aCl z).toArray hx hy info_act (by simpa using hc) (fun j _ => by simp) (by simpa using fun v hv => aCl_ok.one z v hv) rfl ?_
  refine h _ (fun k u hk => ?_) ?_
  · have hk' : k < (aCl z).length := (List.getElem?_eq_some_iff.1 hk).1
    have a := World.cell?_setCells_in w.heap.size (aCl z) (0 + 0) (w.alloc (.cells zs T)) hc k hk'
    rw [List.getElem?_eq_getElem hk'] at hk
    rw [Nat.zero_add] at a ⊢
    simp only [Nat.zero_add] at a ⊢
    rw [← hk]
    exact a
  · have h2 : ∀ (vs : List Value) (o : Nat) (w1 : World), Only [] w w1 → Only [] w (w1.setCells w.heap.size o vs) := by
      intro vs
      induction vs with
      | nil => intro o w1 h; exact h
      | cons u vs ih => intro o w1 h; exact ih _ _ (h.setCell (.inr (Nat.le_refl _)) _)
    exact h2 _ _ _ ((Only.refl [] w).alloc _)
theorem ySp {w : World} {Y : Nat} {x : AV} (h : CellsAt aCl w Y 0 x) : w.cell? ⟨Y, 1, none⟩ = some (.int .u8 x.s.pr) ∧ w.cell? ⟨Y, 2, none⟩ = some (.int .u8 x.s.fl) ∧ w.cell? ⟨Y, 3, none⟩ = some (.int .u8 x.s.lv) ∧ w.cell? ⟨Y, 4, none⟩ = some (.int .i64 x.s.id) ∧ w.cell? ⟨Y, 5, none⟩ = some (.int .i64 x.s.fb) ∧ w.cell? ⟨Y, 6, none⟩ = some (.int .i64 x.s.pb) ∧ w.cell? ⟨Y, 7, none⟩ = some (.int .i64 x.s.rf) ∧ w.cell? ⟨Y, 8, none⟩ = some (.int .i64 x.s.wd) ∧ w.cell? ⟨Y, 9, none⟩ = some (.int .i64 x.s.ht) :=
  ⟨by have a := h 1 _ rfl; simpa using a, by have a := h 2 _ rfl; simpa using a, by have a := h 3 _ rfl; simpa using a, by have a := h 4 _ rfl; simpa using a, by have a := h 5 _ rfl; simpa using a, by have a := h 6 _ rfl; simpa using a, by have a := h 7 _ rfl; simpa using a, by have a := h 8 _ rfl; simpa using a, by have a := h 9 _ rfl; simpa using a⟩
theorem yPp {w : World} {Y : Nat} {x : AV} (h : CellsAt aCl w Y 0 x) : w.cell? ⟨Y, 10, none⟩ = some (.int .i64 x.p.id) ∧ w.cell? ⟨Y, 11, none⟩ = some (.int .i64 x.p.sps) ∧ w.cell? ⟨Y, 12, none⟩ = some (.bool x.p.cab) ∧ w.cell? ⟨Y, 13, none⟩ = some (.int .i64 x.p.rf) ∧ w.cell? ⟨Y, 14, none⟩ = some (.int .i64 x.p.r1) ∧ w.cell? ⟨Y, 15, none⟩ = some (.int .i64 x.p.qp) ∧ w.cell? ⟨Y, 16, none⟩ = some (.int .i64 x.p.qs) ∧ w.cell? ⟨Y, 17, none⟩ = some (.int .i64 x.p.ch) ∧ w.cell? ⟨Y, 18, none⟩ = some (.bool x.p.db) ∧ w.cell? ⟨Y, 19, none⟩ = some (.bool x.p.nt) :=
  ⟨by have a := h 10 _ rfl; simpa using a, by have a := h 11 _ rfl; simpa using a, by have a := h 12 _ rfl; simpa using a, by have a := h 13 _ rfl; simpa using a, by have a := h 14 _ rfl; simpa using a, by have a := h 15 _ rfl; simpa using a, by have a := h 16 _ rfl; simpa using a, by have a := h 17 _ rfl; simpa using a, by have a := h 18 _ rfl; simpa using a, by have a := h 19 _ rfl; simpa using a⟩
def Swt (W w : World) (S R n Y : Nat) (pid : Int) : Prop := Mat W w S R n ∧ w.cell? ⟨Y, 10, none⟩ = some (.int .i64 pid)
theorem Mat.mono {W w : World} {s r n n' : Nat} (h : Mat W w s r n) (k : n ≤ n') : Mat W w s r n' := by
  obtain ⟨a, b, c, d, m⟩ := h; exact ⟨a, b, c, d, m.mono k⟩
theorem Mat.only {W w w' : World} {s r n : Nat} (h : Mat W w s r n) (k : Only [] w w') : Mat W w' s r n := by
  obtain ⟨a, b, c, d, m⟩ := h; exact ⟨a, b, c, d, m.only k⟩
theorem fS_nil : fS [] = fun _ => none := rfl
theorem fP_nil : fP [] = fun _ => none := rfl
set_option maxRecDepth 100000 in
set_option maxHeartbeats 16000000 in
theorem setsMatches_walk (W : World) (vl : Value) (l : List AV) (hl : HoldsA W vl l) (hk : OksA l) :
    Calls Try.prog 3 #[vl] W fun e w' => e = .returned (.bool true) ∧ Only [] W w' := by
  have HL := hid hl
  have HK := hid hk
  clear hk
  obtain ⟨al, cl, rfl, _⟩ := hl
  go_enter Try.func3, Try.ntmps3
  go_wp2_with fail
  refine (new_any _).mono ?_
  rintro e w1 ⟨rfl, s1, o1⟩
  obtain ⟨S, hS⟩ : ∃ S, S = W.heap.size := ⟨_, rfl⟩
  rw [← hS] at s1 ⊢
  have S1 := hid s1
  have O1 := hid o1
  have HS := hid hS
  clear s1 o1 hS
  go_wp2_with fail
  refine (rnew_any _).mono ?_
  rintro e w2 ⟨rfl, s2, o2⟩
  obtain ⟨R, hR⟩ : ∃ R, R = w1.heap.size := ⟨_, rfl⟩
  rw [← hR] at s2 ⊢
  have SR : S < R := by have := S1.out.lt S (by simp); omega
  have X0 := hid (show Mat W w2 S R 0 from ⟨[S], [R], [], [], S1.out.only o2 (by simp), s2, fun y hy => by rw [List.mem_singleton.1 hy, HS.out]; exact Nat.le_refl _, fun y hy => by rw [List.mem_singleton.1 hy, hR]; exact O1.out.size, fun y hy => by rw [List.mem_singleton.1 hy]; simp; omega, by simp, by simp, O1.out.trans o2⟩)
  clear s2 o2 hR SR S1 O1 HS
  go_upto_block 0 with fail
  go_cut [3, 5, 6, 7] from 10 to 82 (fun _ _ _ _ wx => Only [] W wx)
  case first =>
    obtain ⟨NN, hN⟩ : ∃ N, N = min l.length 60 := ⟨_, rfl⟩
    have KN := hid hN
    clear hN
    go_wp2_with fail
    go_loopg [3, 5] NN (fun g s3 t wr => ∃ j S : Nat, j + g = NN ∧ t = .int .i64 j ∧ s3 = .pointer (some ⟨S, 0, none⟩) ∧ Mat W wr S R j)
    case atStart => exact ⟨0, S, by omega, rfl, rfl, X0.out⟩
    case round =>
      obtain ⟨j, S, hj, rfl, rfl, hT⟩ := hrel
      have XJ := hid hT
      have BN := KN.out
      clear hT
      by_cases hg : gk = 0
      · have jb : (j : Int) ≤ 60 := by omega
        rcases Nat.lt_or_ge j l.length with hlt | hge
        · have i1 : (j : Int) < (l.length : Int) := by omega
          have i2 : ¬ (j : Int) < 60 := by omega
          clear hj hg hlt
          go_wp2_with fail
          go_meet
          obtain ⟨_, _, _, _, m⟩ := XJ.out
          exact m.o
        · have i1 : ¬ (j : Int) < (l.length : Int) := by omega
          clear hj hg hge
          go_wp2_with fail
          go_meet
          obtain ⟨_, _, _, _, m⟩ := XJ.out
          exact m.o
      · have i1 : (j : Int) < (l.length : Int) := by omega
        have i2 : (j : Int) < 60 := by omega
        have i0 : (0 : Int) ≤ (j : Int) := by omega
        obtain ⟨gg, rfl⟩ : ∃ gg, gk = gg + 1 := ⟨gk - 1, by omega⟩
        obtain ⟨x, X⟩ : ∃ x, l[j]? = some x := ⟨_, List.getElem?_eq_getElem (by omega : j < l.length)⟩
        obtain ⟨wh0, wh1⟩ := HK.out j x X
        obtain ⟨xb, xo, rfl, hx⟩ := HL.out.at X
        have JN := hid (show j + 1 + gg = NN ∧ j < 60 by omega)
        obtain ⟨Ls, Lr, ls, lp, m⟩ := XJ.out
        have MT := hid m
        have cx : CellsAt aCl wr xb (xo + j * 21) x := fun k v hk => m.o.cell (hx k v hk) (by simp)
        have CXR := hid cx
        clear hj hg X hx BN m cx XJ
        go_upto_region 8 with (first | (refine load_act rfl _ rfl xb (xo + j * 21) x rfl CXR.out ?_; intro v hv; have HV := hid hv; clear hv) | (refine store_act (by rfl) _ _ (by rfl) _ _ (by rfl) x v (by rfl) (by rfl) HV.out ?_; intro w3 hc3 ho3; have CX := hid hc3; have O3 := hid ho3; clear hc3 ho3))
        obtain ⟨Y, hY0⟩ : ∃ Y, Y = wr.heap.size := ⟨_, rfl⟩
        rw [← hY0] at CX ⊢
        have YW := hid (And.intro trivial (show wr.heap.size ≤ Y by omega))
        clear hY0
        go_frame
        have a0 := (show w3.cell? ⟨Y, 0, none⟩ = some (.int .u8 x.wh) from CX.out 0 _ rfl)
        have MS := hid (MT.out.only O3.out)
        have LY := hid (show Y < w3.heap.size from World.block_lt_of_cell? _ _ a0)
        have NS := hid (show Y ∉ Ls from fun h => by have := YW.out.2; have := MT.out.s.lt Y h; omega)
        have NR := hid (show Y ∉ Lr from fun h => by have := YW.out.2; have := MT.out.r.lt Y h; omega)
        have KS := hid (fun w' (k : Only Lr w3 w') => (MS.out.s.only k MS.out.d : StL w' S Ls (fS ls) (fP lp) j))
        have KR := hid (fun w' (k : Only Ls w3 w') => (MS.out.r.only k (apA_symm MS.out.d) : RStL w' R Lr ls lp))
        have KYS := hid (fun w' (k : Only Ls w3 w') => (fun i v hv => k.cell (CX.out i v hv) NS.out : CellsAt aCl w' Y 0 x))
        have KYR := hid (fun w' (k : Only Lr w3 w') => (fun i v hv => k.cell (CX.out i v hv) NR.out : CellsAt aCl w' Y 0 x))
        go_upto_block 2 with (fail)
        go_cut [3, 7] from 28 to 67 (fun s3 _ wx => ∃ S', s3 = .pointer (some ⟨S', 0, none⟩) ∧ Swt W wx S' R (j + 1) Y x.p.id)
        case first =>
          clear a0
          rcases (show x.wh % 4 = 0 ∨ x.wh % 4 = 1 ∨ x.wh % 4 = 2 ∨ x.wh % 4 = 3 by omega) with e | e | e | e
          · have E := hid e
            rw [E.out]
            clear e
            obtain ⟨q0, q1, q2, q3, q4, q5, q6, q7, q8⟩ := ySp CX.out
            cases hok : okS x.s with
            | true =>
              have HOK := hid hok
              clear hok
              go_wp2_with fail
              go_region_with (first | (go_at_call 10; refine (PutSps_any (KS.out _ (by first | exact OB.out.drewN _ | exact OB.out.drew | exact OB.out | exact (Only.refl _ _).drewN _ | exact (Only.refl _ _).drew | exact Only.refl _ _)) x.s HOK.out (by have := JN.out; unfold maxLen; omega)).mono ?_; rintro e wa ⟨rfl, La, sa, oa, la⟩; first | (have OA := hid (show Only Ls w3 wa from Only.trans (by first | exact (Only.refl _ _).drewN _ | exact (Only.refl _ _).drew | exact Only.refl _ _) oa); obtain ⟨q0, q1, q2, q3, q4, q5, q6, q7, q8⟩ := ySp (KYS.out _ OA.out)) | skip) | (go_at_call 11; refine (RPutSps_any (KR.out _ (by first | exact OA.out.drewN _ | exact OA.out.drew | exact OA.out | exact (Only.refl _ _).drewN _ | exact (Only.refl _ _).drew | exact Only.refl _ _)) x.s HOK.out (by have := MS.out.l1; have := JN.out; omega)).mono ?_; rintro e wb ⟨rfl, Lb, rb, ob, lb⟩; first | (have OB := hid (show Only Lr w3 wb from Only.trans (by first | exact (Only.refl _ _).drewN _ | exact (Only.refl _ _).drew | exact Only.refl _ _) ob); obtain ⟨q0, q1, q2, q3, q4, q5, q6, q7, q8⟩ := ySp (KYR.out _ OB.out)) | skip))
              all_goals
                go_wp2_with fail
                go_meet
                first
                  | exact ⟨S, rfl, Mt.sr MS.out (by rw [fS_snoc]; exact sa) OA.out la rb (Only.trans (by first | exact (Only.refl _ _).drewN _ | exact (Only.refl _ _).drew | exact Only.refl _ _) ob) lb (by have := MS.out.l1; simp; omega) (by have := MS.out.l2; omega), (Only.trans (by first | exact (Only.refl _ _).drewN _ | exact (Only.refl _ _).drew | exact Only.refl _ _) ob).cell (p := ⟨Y, 10, none⟩) (KYS.out _ OA.out 10 _ rfl) NR.out⟩
                  | exact ⟨S, rfl, Mt.rs MS.out rb OB.out lb (by rw [fS_snoc]; exact sa) (Only.trans (by first | exact (Only.refl _ _).drewN _ | exact (Only.refl _ _).drew | exact Only.refl _ _) oa) la (by have := MS.out.l1; simp; omega) (by have := MS.out.l2; omega), (Only.trans (by first | exact (Only.refl _ _).drewN _ | exact (Only.refl _ _).drew | exact Only.refl _ _) oa).cell (p := ⟨Y, 10, none⟩) (KYR.out _ OB.out 10 _ rfl) NS.out⟩
            | false =>
              have HOK := hid hok
              clear hok
              go_wp2_with fail
              go_region_with (first | (go_at_call 10; refine (PutSps_no (KS.out _ (by first | exact OB.out.drewN _ | exact OB.out.drew | exact OB.out | exact (Only.refl _ _).drewN _ | exact (Only.refl _ _).drew | exact Only.refl _ _)) x.s HOK.out).mono ?_; rintro e wa ⟨rfl, La, sa, oa, la⟩; first | (have OA := hid (show Only Ls w3 wa from Only.trans (by first | exact (Only.refl _ _).drewN _ | exact (Only.refl _ _).drew | exact Only.refl _ _) oa); obtain ⟨q0, q1, q2, q3, q4, q5, q6, q7, q8⟩ := ySp (KYS.out _ OA.out)) | skip) | (go_at_call 11; refine (RPutSps_no (KR.out _ (by first | exact OA.out.drewN _ | exact OA.out.drew | exact OA.out | exact (Only.refl _ _).drewN _ | exact (Only.refl _ _).drew | exact Only.refl _ _)) x.s HOK.out).mono ?_; rintro e wb ⟨rfl, Lb, rb, ob, lb⟩; first | (have OB := hid (show Only Lr w3 wb from Only.trans (by first | exact (Only.refl _ _).drewN _ | exact (Only.refl _ _).drew | exact Only.refl _ _) ob); obtain ⟨q0, q1, q2, q3, q4, q5, q6, q7, q8⟩ := ySp (KYR.out _ OB.out)) | skip))
              all_goals
                go_wp2_with fail
                go_meet
                first
                  | exact ⟨S, rfl, Mt.sr MS.out (sa.mono (Nat.le_succ j)) OA.out la rb (Only.trans (by first | exact (Only.refl _ _).drewN _ | exact (Only.refl _ _).drew | exact Only.refl _ _) ob) lb (by have := MS.out.l1; omega) (by have := MS.out.l2; omega), (Only.trans (by first | exact (Only.refl _ _).drewN _ | exact (Only.refl _ _).drew | exact Only.refl _ _) ob).cell (p := ⟨Y, 10, none⟩) (KYS.out _ OA.out 10 _ rfl) NR.out⟩
                  | exact ⟨S, rfl, Mt.rs MS.out rb OB.out lb (sa.mono (Nat.le_succ j)) (Only.trans (by first | exact (Only.refl _ _).drewN _ | exact (Only.refl _ _).drew | exact Only.refl _ _) oa) la (by have := MS.out.l1; omega) (by have := MS.out.l2; omega), (Only.trans (by first | exact (Only.refl _ _).drewN _ | exact (Only.refl _ _).drew | exact Only.refl _ _) oa).cell (p := ⟨Y, 10, none⟩) (KYR.out _ OB.out 10 _ rfl) NS.out⟩
          · have E := hid e
            rw [E.out]
            clear e
            obtain ⟨q0, q1, q2, q3, q4, q5, q6, q7, q8, q9⟩ := yPp CX.out
            cases hok : okP x.p with
            | true =>
              have HOK := hid hok
              clear hok
              go_wp2_with fail
              go_region_with (first | (go_at_call 12; refine (PutPps_any (KS.out _ (by first | exact OB.out.drewN _ | exact OB.out.drew | exact OB.out | exact (Only.refl _ _).drewN _ | exact (Only.refl _ _).drew | exact Only.refl _ _)) x.p HOK.out (by have := JN.out; unfold maxLen; omega)).mono ?_; rintro e wa ⟨rfl, La, sa, oa, la⟩; first | (have OA := hid (show Only Ls w3 wa from Only.trans (by first | exact (Only.refl _ _).drewN _ | exact (Only.refl _ _).drew | exact Only.refl _ _) oa); obtain ⟨q0, q1, q2, q3, q4, q5, q6, q7, q8, q9⟩ := yPp (KYS.out _ OA.out)) | skip) | (go_at_call 13; refine (RPutPps_any (KR.out _ (by first | exact OA.out.drewN _ | exact OA.out.drew | exact OA.out | exact (Only.refl _ _).drewN _ | exact (Only.refl _ _).drew | exact Only.refl _ _)) x.p HOK.out (by have := MS.out.l2; have := JN.out; omega)).mono ?_; rintro e wb ⟨rfl, Lb, rb, ob, lb⟩; first | (have OB := hid (show Only Lr w3 wb from Only.trans (by first | exact (Only.refl _ _).drewN _ | exact (Only.refl _ _).drew | exact Only.refl _ _) ob); obtain ⟨q0, q1, q2, q3, q4, q5, q6, q7, q8, q9⟩ := yPp (KYR.out _ OB.out)) | skip))
              all_goals
                go_wp2_with fail
                go_meet
                first
                  | exact ⟨S, rfl, Mt.sr MS.out (by rw [fP_snoc]; exact sa) OA.out la rb (Only.trans (by first | exact (Only.refl _ _).drewN _ | exact (Only.refl _ _).drew | exact Only.refl _ _) ob) lb (by have := MS.out.l1; omega) (by have := MS.out.l2; simp; omega), (Only.trans (by first | exact (Only.refl _ _).drewN _ | exact (Only.refl _ _).drew | exact Only.refl _ _) ob).cell (p := ⟨Y, 10, none⟩) (KYS.out _ OA.out 10 _ rfl) NR.out⟩
                  | exact ⟨S, rfl, Mt.rs MS.out rb OB.out lb (by rw [fP_snoc]; exact sa) (Only.trans (by first | exact (Only.refl _ _).drewN _ | exact (Only.refl _ _).drew | exact Only.refl _ _) oa) la (by have := MS.out.l1; omega) (by have := MS.out.l2; simp; omega), (Only.trans (by first | exact (Only.refl _ _).drewN _ | exact (Only.refl _ _).drew | exact Only.refl _ _) oa).cell (p := ⟨Y, 10, none⟩) (KYR.out _ OB.out 10 _ rfl) NS.out⟩
            | false =>
              have HOK := hid hok
              clear hok
              go_wp2_with fail
              go_region_with (first | (go_at_call 12; refine (PutPps_no (KS.out _ (by first | exact OB.out.drewN _ | exact OB.out.drew | exact OB.out | exact (Only.refl _ _).drewN _ | exact (Only.refl _ _).drew | exact Only.refl _ _)) x.p HOK.out).mono ?_; rintro e wa ⟨rfl, La, sa, oa, la⟩; first | (have OA := hid (show Only Ls w3 wa from Only.trans (by first | exact (Only.refl _ _).drewN _ | exact (Only.refl _ _).drew | exact Only.refl _ _) oa); obtain ⟨q0, q1, q2, q3, q4, q5, q6, q7, q8, q9⟩ := yPp (KYS.out _ OA.out)) | skip) | (go_at_call 13; refine (RPutPps_no (KR.out _ (by first | exact OA.out.drewN _ | exact OA.out.drew | exact OA.out | exact (Only.refl _ _).drewN _ | exact (Only.refl _ _).drew | exact Only.refl _ _)) x.p HOK.out).mono ?_; rintro e wb ⟨rfl, Lb, rb, ob, lb⟩; first | (have OB := hid (show Only Lr w3 wb from Only.trans (by first | exact (Only.refl _ _).drewN _ | exact (Only.refl _ _).drew | exact Only.refl _ _) ob); obtain ⟨q0, q1, q2, q3, q4, q5, q6, q7, q8, q9⟩ := yPp (KYR.out _ OB.out)) | skip))
              all_goals
                go_wp2_with fail
                go_meet
                first
                  | exact ⟨S, rfl, Mt.sr MS.out (sa.mono (Nat.le_succ j)) OA.out la rb (Only.trans (by first | exact (Only.refl _ _).drewN _ | exact (Only.refl _ _).drew | exact Only.refl _ _) ob) lb (by have := MS.out.l1; omega) (by have := MS.out.l2; omega), (Only.trans (by first | exact (Only.refl _ _).drewN _ | exact (Only.refl _ _).drew | exact Only.refl _ _) ob).cell (p := ⟨Y, 10, none⟩) (KYS.out _ OA.out 10 _ rfl) NR.out⟩
                  | exact ⟨S, rfl, Mt.rs MS.out rb OB.out lb (sa.mono (Nat.le_succ j)) (Only.trans (by first | exact (Only.refl _ _).drewN _ | exact (Only.refl _ _).drew | exact Only.refl _ _) oa) la (by have := MS.out.l1; omega) (by have := MS.out.l2; omega), (Only.trans (by first | exact (Only.refl _ _).drewN _ | exact (Only.refl _ _).drew | exact Only.refl _ _) oa).cell (p := ⟨Y, 10, none⟩) (KYR.out _ OB.out 10 _ rfl) NS.out⟩
          · have E := hid e
            rw [E.out]
            clear e
            have q20 := (show w3.cell? ⟨Y, 20, none⟩ = some (.int .i64 x.id) from by have a := CX.out 20 _ rfl; simpa using a)
            go_wp2_with fail
            refine (gets_any MS.out.s MS.out.r x.id (by have := MS.out.l1; have := JN.out; omega) (by have := MS.out.l2; have := JN.out; omega)).mono ?_
            rintro e wa ⟨rfl, oa⟩
            have OA := hid oa
            clear oa
            go_wp2_with fail
            go_meet
            exact ⟨S, rfl, ⟨_, _, _, _, (MS.out.only OA.out).mono (Nat.le_succ j)⟩, OA.out.cell (p := ⟨Y, 10, none⟩) (CX.out 10 _ rfl) (by simp)⟩
          · have E := hid e
            rw [E.out]
            clear e
            go_wp2_with fail
            refine (copy_any MS.out.s).mono ?_
            rintro e wa ⟨C, L3, rfl, s3, o3, k3⟩
            have MA := hid (MS.out.only o3)
            have S3 := hid s3
            have K3 := hid (show ∀ y, y ∈ L3 → w3.heap.size ≤ y from k3)
            have YA := hid (o3.cell (p := ⟨Y, 10, none⟩) (CX.out 10 _ rfl) (by simp))
            clear s3 o3 k3
            go_wp2_with fail
            refine (plain6_any _).mono ?_
            rintro e wb ⟨rfl, ob⟩
            have OB := hid ob
            clear ob
            go_wp2_with fail
            refine (PutSps_any (MA.out.s.only OB.out (by simp)) plainS (by decide +kernel) (by have := JN.out; unfold maxLen; omega)).mono ?_
            rintro e wc ⟨rfl, Lc, sc, oc, lc⟩
            have SC := hid sc
            have OC := hid oc
            have LC := hid lc
            clear sc oc lc
            go_wp2_with fail
            refine (plain7_any _).mono ?_
            rintro e wd ⟨rfl, od⟩
            have OD := hid od
            clear od
            go_wp2_with fail
            refine (PutPps_any (SC.out.only OD.out (by simp)) plainP (by decide +kernel) (by have := JN.out; unfold maxLen; omega)).mono ?_
            rintro e we ⟨rfl, Le, se, oe, le⟩
            have OE := hid oe
            clear se oe le
            go_wp2_with fail
            go_meet
            have m := MA.out
            have c1 : ∀ y, y ∈ L3 → y ∉ Ls := fun y h h2 => by have := K3.out y h; have := MS.out.s.lt y h2; omega
            have c2 : ∀ y, y ∈ Lc → y ∉ L3 := apA_grown (apA_symm c1) LC.out (fun y hy => Nat.lt_of_lt_of_le (S3.out.lt y hy) OB.out.size)
            have c3 : ∀ y, y ∈ Lc → y ∉ Lr := apA_grown m.d LC.out (fun y hy => Nat.lt_of_lt_of_le (m.r.lt y hy) OB.out.size)
            obtain ⟨o1, k1⟩ := own_step (m.o.trans OB.out) m.ks OC.out LC.out
            have o2 := (o1.trans OD.out).trans2 OE.out (fun y hy => .inr (k1 y hy))
            have z : ∀ y, y ∈ L3 → y ∉ Lr := fun y h h2 => by have := K3.out y h; have := MS.out.r.lt y h2; omega
            have zc : Y ∉ Lc := fun h => by
              rcases LC.out Y h with h | h
              · exact NS.out h
              · have := LY.out; have := OB.out.size; have := m.o.size; have := MA.out.s.lt; have := YA.out; have b := World.block_lt_of_cell? _ _ YA.out; simp only at b; omega
            exact ⟨C, rfl, ⟨L3, Lr, ls, lp, ⟨(((S3.out.only OB.out (by simp)).only OC.out c1).only OD.out (by simp)).only OE.out (apA_symm c2) |>.mono (Nat.le_succ j), (((m.r.only OB.out (by simp)).only OC.out (apA_symm m.d)).only OD.out (by simp)).only OE.out (apA_symm c3), fun y hy => Nat.le_trans MS.out.o.size (K3.out y hy), m.kr, z, by have := m.l1; omega, by have := m.l2; omega, o2⟩⟩, OE.out.cell (OD.out.cell (OC.out.cell (OB.out.cell YA.out (by simp)) NS.out) (by simp)) zc⟩
        case rest =>
          obtain ⟨S', rfl, hM, hY⟩ := hcut
          have XM := hid hM
          have HY := hid hY
          clear hM a0
          go_wp2_with fail
          obtain ⟨L1, L2, us, up, m⟩ := XM.out
          have MM := hid m
          clear m
          refine (gets_any MM.out.s MM.out.r x.p.id (by have := MM.out.l1; have := JN.out; omega) (by have := MM.out.l2; have := JN.out; omega)).mono ?_
          rintro e wa ⟨rfl, oa⟩
          have MN := hid (MM.out.only oa)
          clear oa hY
          go_wp2_with fail
          refine (gets_any MN.out.s MN.out.r _ (by have := MM.out.l1; have := JN.out; omega) (by have := MM.out.l2; have := JN.out; omega)).mono ?_
          rintro e wb ⟨rfl, ob⟩
          have MO := hid (MN.out.only ob)
          clear ob
          go_wp2_with fail
          go_roundg gg
          case measure => omega
          case rel => exact ⟨j + 1, S', JN.out.1, by go_num, rfl, _, _, _, _, MO.out⟩
  case rest =>
  have OF := hid hcut
  clear hcut X0
  go_wp2_with fail
  refine (awake_any _).mono ?_
  rintro e w9 ⟨rfl, o9⟩
  have O9 := hid (OF.out.trans o9)
  clear o9
  go_wp2_with fail
  go_ret
  exact ⟨rfl, O9.out⟩
end Go.Proofs.Ytkcjehajmofhfaa

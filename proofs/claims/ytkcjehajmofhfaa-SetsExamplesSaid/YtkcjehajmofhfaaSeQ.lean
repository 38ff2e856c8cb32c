/- The program's store: New, PutSps, PutPps, Get, Copy. -/
import Derived.Test.YtkcjehajmofhfaaSeP
namespace Go.Proofs.Ytkcjehajmofhfaa
open Go.RowKit Go.Maps
set_option linter.unusedVariables false

/-- The store at block b: its maps' blocks, what they hold, and at most how many entries. -/
structure St (w : World) (b : Nat) (m1 m2 : Option Nat) (f : Int → Option SV) (g : Int → Option PV) (n : Nat) : Prop where
  c0 : w.cell? ⟨b, 0, none⟩ = some (.map m1)
  c1 : w.cell? ⟨b, 1, none⟩ = some (.map m2)
  f0 : w.frozen? ⟨b, 0, none⟩ = false
  f1 : w.frozen? ⟨b, 1, none⟩ = false
  h1 : MapS w m1 n f
  h2 : MapP w m2 n g
  n1 : ∀ y, m1 = some y → y ≠ b
  n2 : ∀ y, m2 = some y → y ≠ b
  ne : ∀ y, m1 = some y → m2 ≠ some y
  a1 : AllS f
  a2 : AllP g
def ownL (b : Nat) (m1 m2 : Option Nat) : List Nat := b :: (m1.toList ++ m2.toList)
theorem mem_own {b y : Nat} {m1 m2 : Option Nat} : y ∈ ownL b m1 m2 ↔ y = b ∨ m1 = some y ∨ m2 = some y := by
  cases m1 <;> cases m2 <;> simp [ownL, eq_comm]
/-- .. all its blocks are in L. -/
def StL (w : World) (b : Nat) (L : List Nat) (f : Int → Option SV) (g : Int → Option PV) (n : Nat) : Prop := ∃ m1 m2, L = ownL b m1 m2 ∧ St w b m1 m2 f g n
theorem St.lt {w : World} {b : Nat} {m1 m2 : Option Nat} {f : Int → Option SV} {g : Int → Option PV} {n : Nat} (h : St w b m1 m2 f g n) : b < w.heap.size := World.block_lt_of_cell? _ _ h.c0
theorem St.only {S : List Nat} {w w' : World} {b : Nat} {m1 m2 : Option Nat} {f : Int → Option SV} {g : Int → Option PV} {n : Nat} (h : St w b m1 m2 f g n) (k : Only S w w') (hs : ∀ y, y ∈ ownL b m1 m2 → y ∉ S) : St w' b m1 m2 f g n :=
  have hb : b ∉ S := hs b (mem_own.2 (.inl rfl))
  ⟨k.cell h.c0 hb, k.cell h.c1 hb, (k.frozen (p := ⟨b, 0, none⟩) h.lt hb).trans h.f0, (k.frozen (p := ⟨b, 1, none⟩) h.lt hb).trans h.f1, MapIn.only h.h1 k (fun y e => hs y (mem_own.2 (.inr (.inl e)))), MapIn.only h.h2 k (fun y e => hs y (mem_own.2 (.inr (.inr e)))), h.n1, h.n2, h.ne, h.a1, h.a2⟩
theorem St.mono {w : World} {b : Nat} {m1 m2 : Option Nat} {f : Int → Option SV} {g : Int → Option PV} {n n' : Nat} (h : St w b m1 m2 f g n) (hn : n ≤ n') : St w b m1 m2 f g n' :=
  ⟨h.c0, h.c1, h.f0, h.f1, MapIn.mono h.h1 hn, MapIn.mono h.h2 hn, h.n1, h.n2, h.ne, h.a1, h.a2⟩
theorem StL.only {S : List Nat} {w w' : World} {b : Nat} {L : List Nat} {f : Int → Option SV} {g : Int → Option PV} {n : Nat} (h : StL w b L f g n) (k : Only S w w') (hs : ∀ y, y ∈ L → y ∉ S) : StL w' b L f g n := by
  obtain ⟨m1, m2, rfl, h⟩ := h; exact ⟨m1, m2, rfl, h.only k hs⟩
theorem StL.mono {w : World} {b : Nat} {L : List Nat} {f : Int → Option SV} {g : Int → Option PV} {n n' : Nat} (h : StL w b L f g n) (hn : n ≤ n') : StL w b L f g n' := by
  obtain ⟨m1, m2, rfl, h⟩ := h; exact ⟨m1, m2, rfl, h.mono hn⟩
theorem StL.lt {w : World} {b : Nat} {L : List Nat} {f : Int → Option SV} {g : Int → Option PV} {n : Nat} (h : StL w b L f g n) : ∀ y, y ∈ L → y < w.heap.size := by
  obtain ⟨m1, m2, rfl, h⟩ := h
  intro y hy
  rcases mem_own.1 hy with rfl | e | e
  · exact h.lt
  · exact MapIn.lt h.h1 y e
  · exact MapIn.lt h.h2 y e
theorem StL.mem {w : World} {b : Nat} {L : List Nat} {f : Int → Option SV} {g : Int → Option PV} {n : Nat} (h : StL w b L f g n) : b ∈ L := by
  obtain ⟨m1, m2, rfl, h⟩ := h; exact mem_own.2 (.inl rfl)

set_option maxHeartbeats 400000 in
theorem new_any (w : World) : Calls Try.prog 8 #[] w fun e w' => e = .returned (.pointer (some ⟨w.heap.size, 0, none⟩)) ∧ StL w' w.heap.size [w.heap.size] (fun _ => none) (fun _ => none) 0 ∧ Only [] w w' := by
  go_enter Try.func8, Try.ntmps8
  go_wp2
  go_ret
  exact ⟨rfl, ⟨none, none, rfl, by simp, by simp, by simp, by simp, rfl, rfl, (fun y h => by cases h), (fun y h => by cases h), (fun y h => by cases h), (fun i x h => by cases h), (fun i x h => by cases h)⟩, (Only.refl _ _).alloc _⟩

/-- What a put does. -/
def PutPost (w : World) (b : Nat) (L : List Nat) (r : Int) (f : Int → Option SV) (g : Int → Option PV) (n : Nat) (e : Ending) (w' : World) : Prop :=
  e = .returned (.int .i64 r) ∧ ∃ L', StL w' b L' f g n ∧ Only L w w' ∧ ∀ y, y ∈ L' → y ∈ L ∨ w.heap.size ≤ y
theorem puts_any {w : World} {b : Nat} {m1 m2 : Option Nat} {f : Int → Option SV} {g : Int → Option PV} {n : Nat} (h : St w b m1 m2 f g n) (x : SV) (k : Int) (hk : IntOk k) (hn : n < maxLen) :
    Calls Try.prog 26 #[.pointer (some ⟨b, 0, none⟩), .int .i64 k, sV x] w (PutS b 0 m1 (n + 1) (upd f k x) w) := by
  cases m1 with
  | none => exact puts_nil b 0 n f k x w h.c0 h.f0 h.h1 hk
  | some m => exact puts_old b 0 m n f k x w h.c0 h.f0 h.h1 hn hk (Ne.symm (h.n1 m rfl))
theorem putp_any {w : World} {b : Nat} {m1 m2 : Option Nat} {f : Int → Option SV} {g : Int → Option PV} {n : Nat} (h : St w b m1 m2 f g n) (x : PV) (k : Int) (hk : IntOk k) (hn : n < maxLen) :
    Calls Try.prog 29 #[.pointer (some ⟨b, 1, none⟩), .int .i64 k, pV x] w (PutP b 1 m2 (n + 1) (upd g k x) w) := by
  cases m2 with
  | none => exact putp_nil b 1 n g k x w h.c1 h.f1 h.h2 hk
  | some m => exact putp_old b 1 m n g k x w h.c1 h.f1 h.h2 hn hk (Ne.symm (h.n2 m rfl))
theorem St.puts {w w' : World} {b : Nat} {m1 m2 : Option Nat} {f : Int → Option SV} {g : Int → Option PV} {n : Nat} (h : St w b m1 m2 f g n) {x : SV} {e : Ending} (hx : okS x = true) (hp : PutS b 0 m1 (n + 1) (upd f x.id x) w e w') :
    e = .returned (.tuple #[]) ∧ ∃ L', StL w' b L' (upd f x.id x) g (n + 1) ∧ Only (ownL b m1 m2) w w' ∧ ∀ y, y ∈ L' → y ∈ ownL b m1 m2 ∨ w.heap.size ≤ y := by
  obtain ⟨he, m', hM, hc, hf, hk, ho⟩ := hp
  obtain ⟨k1, k2⟩ := hk 1 (by omega)
  have hb := h.lt
  rcases ho with ⟨rfl, ho⟩ | ⟨rfl, hlt, ho⟩
  · refine ⟨he, ownL b (some m') m2, ⟨some m', m2, rfl, hc, k1.trans h.c1, hf, k2.trans h.f1, hM, (MapIn.only h.h2 ho (fun y e hy => h.ne m' rfl (by rw [e, List.mem_singleton.1 hy]))).mono (by omega), h.n1, h.n2, h.ne, h.a1.upd hx, h.a2⟩, ho.mono (fun y _ hy => by rw [List.mem_singleton.1 hy]; exact mem_own.2 (.inr (.inl rfl))), fun y hy => .inl hy⟩
  · refine ⟨he, ownL b (some m') m2, ⟨some m', m2, rfl, hc, k1.trans h.c1, hf, k2.trans h.f1, hM, (MapIn.only h.h2 ho (fun y e hy => h.n2 y e (List.mem_singleton.1 hy))).mono (by omega), fun y e => by cases e; omega, h.n2, fun y e e2 => by cases e; have := MapIn.lt h.h2 m' e2; omega, h.a1.upd hx, h.a2⟩, ho.mono (fun y _ hy => by rw [List.mem_singleton.1 hy]; exact mem_own.2 (.inl rfl)), fun y hy => ?_⟩
    rcases mem_own.1 hy with rfl | e | e
    · exact .inl (mem_own.2 (.inl rfl))
    · cases e; exact .inr hlt
    · exact .inl (mem_own.2 (.inr (.inr e)))
theorem St.putp {w w' : World} {b : Nat} {m1 m2 : Option Nat} {f : Int → Option SV} {g : Int → Option PV} {n : Nat} (h : St w b m1 m2 f g n) {x : PV} {e : Ending} (hx : okP x = true) (hp : PutP b 1 m2 (n + 1) (upd g x.id x) w e w') :
    e = .returned (.tuple #[]) ∧ ∃ L', StL w' b L' f (upd g x.id x) (n + 1) ∧ Only (ownL b m1 m2) w w' ∧ ∀ y, y ∈ L' → y ∈ ownL b m1 m2 ∨ w.heap.size ≤ y := by
  obtain ⟨he, m', hM, hc, hf, hk, ho⟩ := hp
  obtain ⟨k1, k2⟩ := hk 0 (by omega)
  have hb := h.lt
  rcases ho with ⟨rfl, ho⟩ | ⟨rfl, hlt, ho⟩
  · refine ⟨he, ownL b m1 (some m'), ⟨m1, some m', rfl, k1.trans h.c0, hc, k2.trans h.f0, hf, (MapIn.only h.h1 ho (fun y e hy => h.ne y e (by rw [List.mem_singleton.1 hy]))).mono (by omega), hM, h.n1, h.n2, h.ne, h.a1, h.a2.upd hx⟩, ho.mono (fun y _ hy => by rw [List.mem_singleton.1 hy]; exact mem_own.2 (.inr (.inr rfl))), fun y hy => .inl hy⟩
  · refine ⟨he, ownL b m1 (some m'), ⟨m1, some m', rfl, k1.trans h.c0, hc, k2.trans h.f0, hf, (MapIn.only h.h1 ho (fun y e hy => h.n1 y e (List.mem_singleton.1 hy))).mono (by omega), hM, h.n1, fun y e => by cases e; omega, fun y e e2 => by cases e2; have := MapIn.lt h.h1 m' e; omega, h.a1, h.a2.upd hx⟩, ho.mono (fun y _ hy => by rw [List.mem_singleton.1 hy]; exact mem_own.2 (.inl rfl)), fun y hy => ?_⟩
    rcases mem_own.1 hy with rfl | e | e
    · exact .inl (mem_own.2 (.inl rfl))
    · exact .inl (mem_own.2 (.inr (.inl e)))
    · cases e; exact .inr hlt
theorem intOk_id {x : SV} (h : okS x = true) : IntOk x.id := by have := okS_id h; unfold IntOk; omega
theorem intOk_idp {x : PV} (h : okP x = true) : IntOk x.id := by have := okP_id h; unfold IntOk; omega
-- GEN
set_option maxRecDepth 100000 in
set_option maxHeartbeats 2000000 in
theorem puts_no {w : World} {b : Nat} {m1 m2 : Option Nat} {f : Int → Option SV} {g : Int → Option PV} {n : Nat} (h : St w b m1 m2 f g n) (x : SV) (hx : okS x = false) :
    Calls Try.prog 10 #[.pointer (some ⟨b, 0, none⟩), sV x] w (PutPost w b (ownL b m1 m2) 3 f g n) := by
  have CH := hid (show chS x = 3 by unfold chS; rw [hx]; rfl)
  clear hx
  obtain ⟨D, hD⟩ : ∃ D, D = w.heap.size := ⟨_, rfl⟩
  have H := hid h
  have hlt := h.lt
  clear h
  go_enter Try.func10, Try.ntmps10
  go_upto_region 1 with (fail)
  generalize hw1 : w.alloc _ = w1
  have O1 := hid (show Only [] w w1 from hw1 ▸ (Only.refl [] w).alloc _)
  have A1 := hid (show SAt w1 w.heap.size 0 x from hw1 ▸ SAt.new w x _)
  rw [← hD] at A1 ⊢
  have DL := hid (show D < w1.heap.size by rw [← hw1, hD]; simp)
  have HD := hid hD
  clear hw1 hD
  obtain ⟨a0, a1, a2, a3, a4, a5, a6, a7, a8⟩ := A1.out.all
  go_wp2_with fail
  refine (check6_any x _).mono ?_
  rintro e w2 ⟨rfl, ho2⟩
  rw [CH.out]
  have O2 := hid (O1.out.trans ho2)
  clear ho2 a0 a1 a2 a3 a4 a5 a6 a7 a8
  go_wp2_with fail
  go_ret
  exact ⟨rfl, _, ⟨m1, m2, rfl, H.out.only O2.out (by simp)⟩, O2.out.mono (by simp), fun y hy => .inl hy⟩
set_option maxRecDepth 100000 in
set_option maxHeartbeats 2000000 in
theorem puts_yes {w : World} {b : Nat} {m1 m2 : Option Nat} {f : Int → Option SV} {g : Int → Option PV} {n : Nat} (h : St w b m1 m2 f g n) (x : SV) (hx : okS x = true) (hn : n < maxLen) :
    Calls Try.prog 10 #[.pointer (some ⟨b, 0, none⟩), sV x] w (PutPost w b (ownL b m1 m2) 0 (upd f x.id x) g (n + 1)) := by
  have CH := hid (show chS x = 0 by unfold chS; rw [hx]; rfl)
  have HX := hid hx
  have HN := hid hn
  clear hx hn
  obtain ⟨D, hD⟩ : ∃ D, D = w.heap.size := ⟨_, rfl⟩
  have H := hid h
  have hlt := h.lt
  clear h
  go_enter Try.func10, Try.ntmps10
  go_upto_region 1 with (fail)
  generalize hw1 : w.alloc _ = w1
  have O1 := hid (show Only [] w w1 from hw1 ▸ (Only.refl [] w).alloc _)
  have A1 := hid (show SAt w1 w.heap.size 0 x from hw1 ▸ SAt.new w x _)
  rw [← hD] at A1 ⊢
  have DL := hid (show D < w1.heap.size by rw [← hw1, hD]; simp)
  have HD := hid hD
  clear hw1 hD
  obtain ⟨a0, a1, a2, a3, a4, a5, a6, a7, a8⟩ := A1.out.all
  go_wp2_with fail
  refine (check6_any x _).mono ?_
  rintro e w2 ⟨rfl, ho2⟩
  rw [CH.out]
  have O2 := hid (O1.out.trans ho2)
  clear a0 a1 a2 a3 a4 a5 a6 a7 a8
  obtain ⟨a0, a1, a2, a3, a4, a5, a6, a7, a8⟩ := (A1.out.only ho2 (by simp)).all
  have c0 := (H.out.only O2.out (by simp)).c0
  clear ho2
  go_wp2_with fail
  go_region_with ((go_at_call 26; refine (puts_any (H.out.only (O2.out.drewN _) (by simp)) x _ (intOk_id HX.out) HN.out).mono ?_; (rintro e w3 ⟨rfl, hp⟩)))
  all_goals
    obtain ⟨_, L', hst, ho3, hl'⟩ := (H.out.only (O2.out.drewN _) (by simp)).puts HX.out ⟨rfl, hp⟩
    go_wp2_with fail
    go_ret
    exact ⟨rfl, L', hst, ((O2.out.drewN _).mono (by simp)).trans ho3, fun y hy => (hl' y hy).imp id (fun h => Nat.le_trans O2.out.size h)⟩
theorem PutSps_any {w : World} {b : Nat} {L : List Nat} {f : Int → Option SV} {g : Int → Option PV} {n : Nat} (h : StL w b L f g n) (x : SV) (hx : okS x = true) (hn : n < maxLen) :
    Calls Try.prog 10 #[.pointer (some ⟨b, 0, none⟩), sV x] w (PutPost w b L 0 (upd f x.id x) g (n + 1)) := by
  obtain ⟨m1, m2, rfl, h⟩ := h
  exact puts_yes h x hx hn
theorem PutSps_no {w : World} {b : Nat} {L : List Nat} {f : Int → Option SV} {g : Int → Option PV} {n : Nat} (h : StL w b L f g n) (x : SV) (hx : okS x = false) :
    Calls Try.prog 10 #[.pointer (some ⟨b, 0, none⟩), sV x] w (PutPost w b L 3 f g n) := by
  obtain ⟨m1, m2, rfl, h⟩ := h
  exact puts_no h x hx
set_option maxRecDepth 100000 in
set_option maxHeartbeats 2000000 in
theorem putp_no {w : World} {b : Nat} {m1 m2 : Option Nat} {f : Int → Option SV} {g : Int → Option PV} {n : Nat} (h : St w b m1 m2 f g n) (x : PV) (hx : okP x = false) :
    Calls Try.prog 12 #[.pointer (some ⟨b, 0, none⟩), pV x] w (PutPost w b (ownL b m1 m2) 3 f g n) := by
  have CH := hid (show chP x = 3 by unfold chP; rw [hx]; rfl)
  clear hx
  obtain ⟨D, hD⟩ : ∃ D, D = w.heap.size := ⟨_, rfl⟩
  have H := hid h
  have hlt := h.lt
  clear h
  go_enter Try.func12, Try.ntmps12
  go_upto_region 1 with (fail)
  generalize hw1 : w.alloc _ = w1
  have O1 := hid (show Only [] w w1 from hw1 ▸ (Only.refl [] w).alloc _)
  have A1 := hid (show PAt w1 w.heap.size 0 x from hw1 ▸ PAt.new w x _)
  rw [← hD] at A1 ⊢
  have DL := hid (show D < w1.heap.size by rw [← hw1, hD]; simp)
  have HD := hid hD
  clear hw1 hD
  obtain ⟨a0, a1, a2, a3, a4, a5, a6, a7, a8, a9⟩ := A1.out.all
  go_wp2_with fail
  refine (check7_any x _).mono ?_
  rintro e w2 ⟨rfl, ho2⟩
  rw [CH.out]
  have O2 := hid (O1.out.trans ho2)
  clear ho2 a0 a1 a2 a3 a4 a5 a6 a7 a8 a9
  go_wp2_with fail
  go_ret
  exact ⟨rfl, _, ⟨m1, m2, rfl, H.out.only O2.out (by simp)⟩, O2.out.mono (by simp), fun y hy => .inl hy⟩
set_option maxRecDepth 100000 in
set_option maxHeartbeats 2000000 in
theorem putp_yes {w : World} {b : Nat} {m1 m2 : Option Nat} {f : Int → Option SV} {g : Int → Option PV} {n : Nat} (h : St w b m1 m2 f g n) (x : PV) (hx : okP x = true) (hn : n < maxLen) :
    Calls Try.prog 12 #[.pointer (some ⟨b, 0, none⟩), pV x] w (PutPost w b (ownL b m1 m2) 0 f (upd g x.id x) (n + 1)) := by
  have CH := hid (show chP x = 0 by unfold chP; rw [hx]; rfl)
  have HX := hid hx
  have HN := hid hn
  clear hx hn
  obtain ⟨D, hD⟩ : ∃ D, D = w.heap.size := ⟨_, rfl⟩
  have H := hid h
  have hlt := h.lt
  clear h
  go_enter Try.func12, Try.ntmps12
  go_upto_region 1 with (fail)
  generalize hw1 : w.alloc _ = w1
  have O1 := hid (show Only [] w w1 from hw1 ▸ (Only.refl [] w).alloc _)
  have A1 := hid (show PAt w1 w.heap.size 0 x from hw1 ▸ PAt.new w x _)
  rw [← hD] at A1 ⊢
  have DL := hid (show D < w1.heap.size by rw [← hw1, hD]; simp)
  have HD := hid hD
  clear hw1 hD
  obtain ⟨a0, a1, a2, a3, a4, a5, a6, a7, a8, a9⟩ := A1.out.all
  go_wp2_with fail
  refine (check7_any x _).mono ?_
  rintro e w2 ⟨rfl, ho2⟩
  rw [CH.out]
  have O2 := hid (O1.out.trans ho2)
  clear a0 a1 a2 a3 a4 a5 a6 a7 a8 a9
  obtain ⟨a0, a1, a2, a3, a4, a5, a6, a7, a8, a9⟩ := (A1.out.only ho2 (by simp)).all
  have c0 := (H.out.only O2.out (by simp)).c1
  clear ho2
  go_wp2_with fail
  go_region_with ((go_at_call 29; refine (putp_any (H.out.only (O2.out.drewN _) (by simp)) x _ (intOk_idp HX.out) HN.out).mono ?_; (rintro e w3 ⟨rfl, hp⟩)))
  all_goals
    obtain ⟨_, L', hst, ho3, hl'⟩ := (H.out.only (O2.out.drewN _) (by simp)).putp HX.out ⟨rfl, hp⟩
    go_wp2_with fail
    go_ret
    exact ⟨rfl, L', hst, ((O2.out.drewN _).mono (by simp)).trans ho3, fun y hy => (hl' y hy).imp id (fun h => Nat.le_trans O2.out.size h)⟩
theorem PutPps_any {w : World} {b : Nat} {L : List Nat} {f : Int → Option SV} {g : Int → Option PV} {n : Nat} (h : StL w b L f g n) (x : PV) (hx : okP x = true) (hn : n < maxLen) :
    Calls Try.prog 12 #[.pointer (some ⟨b, 0, none⟩), pV x] w (PutPost w b L 0 f (upd g x.id x) (n + 1)) := by
  obtain ⟨m1, m2, rfl, h⟩ := h
  exact putp_yes h x hx hn
theorem PutPps_no {w : World} {b : Nat} {L : List Nat} {f : Int → Option SV} {g : Int → Option PV} {n : Nat} (h : StL w b L f g n) (x : PV) (hx : okP x = false) :
    Calls Try.prog 12 #[.pointer (some ⟨b, 0, none⟩), pV x] w (PutPost w b L 3 f g n) := by
  obtain ⟨m1, m2, rfl, h⟩ := h
  exact putp_no h x hx
end Go.Proofs.Ytkcjehajmofhfaa

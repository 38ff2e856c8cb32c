/- What goes through a number: the program's checkNumber, output and input, each for one code. -/
/- The program's number and list, by what is done with them: checked, written, read. -/
/- The program's list by modes; the three things that may be done. -/
/- The program's number, flag and list, for whatever may be done. -/
import Derived.Test.YtjjjfmnhdnajkaaGreatDoorHdB
import Derived.StillTailTactics
import Derived.Deep.RegionWith
section
set_option maxRecDepth 20000
namespace Go.Proofs.YtjjjfmnhdnajkaaGreatDoor
open Go.RowKit
set_option linter.unusedVariables false
set_option linter.unusedSimpArgs false

theorem CdAt.form {w : World} {cv : Value} {K : Nat} {c : Cd} (h : CdAt w cv K c) : ∃ g1 g2 c1 c2, cv = .agg #[.func g1 #[] c1, .func g2 #[] c2, .int .i64 c.lo, .int .i64 c.hi] := by
  cases c with
  | u n => exact ⟨_, _, _, _, h.1⟩
  | ue a b => exact ⟨_, _, _, _, h.1⟩
  | se a b => exact ⟨_, _, _, _, h.1⟩

/-! ### Writing. -/
set_option maxRecDepth 100000 in
set_option maxHeartbeats 2000000 in
theorem outnum_u (b k i K : Nat) (w : World) (n v : Nat) (hn : n ≤ 16) (hv : v < 2 ^ n) (hK : Boxed w K 3 (.int .i64 n)) (sv : Value) (L : List Bool) (hw : Wr w b sv L) (hc : w.cell? ⟨k, i, none⟩ = some (.int .i64 v)) (hL : L.length ≤ 10000000) :
    Calls Tryz.prog 32 #[.agg #[.pointer (some ⟨b, 0, none⟩)], .pointer (some ⟨k, i, none⟩), .agg #[.func (.func 131) #[] #[.pointer (some ⟨K, 0, none⟩)], .func (.func 132) #[] #[.pointer (some ⟨K, 0, none⟩)], .int .i64 0, .int .i64 (2 ^ n - 1)]] w
      fun e w' => e = .returned (.int .i64 0) ∧ ∃ sv', PutLeft w w' b sv sv' (L ++ bitsOf n v) := by
  have O1 := hid (((Only.refl [] w).alloc (.cells #[.pointer (some ⟨b, 0, none⟩)] 76)).alloc (.cells #[.func (.func 131) #[] #[.pointer (some ⟨K, 0, none⟩)], .func (.func 132) #[] #[.pointer (some ⟨K, 0, none⟩)], .int .i64 0, .int .i64 (2 ^ n - 1)] 121))
  have hc1 := O1.out.cell hc (by simp)
  have C := hid (fun w (hw : Wr w b sv L) (hK : Boxed w K 3 (.int .i64 n)) => u2_any b K n v hn hv sv L w hw hK hL)
  have W1 := hid (fun w' (o : Only [] w w') => hw.only o (by simp) (by simp))
  have K1 := hid (fun w' (o : Only [] w w') => boxed_only hK o (by simp))
  clear hK
  clear hw hc hn hv
  go_enter Tryz.func32, Tryz.ntmps32
  go_wp2_with fail
  go_region_with ((go_at_call 132; refine (C.out _ (W1.out _ (by first | exact O1.out.drewN _ | exact O1.out.drew | exact O1.out)) (K1.out _ (by first | exact O1.out.drewN _ | exact O1.out.drew | exact O1.out))).mono ?_; rintro e w2 ⟨rfl, sv', hP⟩))
  all_goals
    go_wp2_with fail
    go_ret
    exact ⟨rfl, sv', ⟨hP.wr, fun g hg => (hP.own g hg).imp id (Nat.le_trans O1.out.size), (O1.out.drew.mono (by simp)).trans hP.only⟩⟩
set_option maxRecDepth 100000 in
set_option maxHeartbeats 2000000 in
theorem outnum_ue (b k i K : Nat) (w : World) (a c v : Int) (V : Nat) (h0 : 0 ≤ a) (h1 : a ≤ 1) (hv : v - a = V) (hV : V ≤ 200000) (hK : Boxed w K 3 (.int .i64 a)) (sv : Value) (L : List Bool) (hw : Wr w b sv L) (hc : w.cell? ⟨k, i, none⟩ = some (.int .i64 v)) (hL : L.length ≤ 10000000) :
    Calls Tryz.prog 32 #[.agg #[.pointer (some ⟨b, 0, none⟩)], .pointer (some ⟨k, i, none⟩), .agg #[.func (.func 133) #[] #[.pointer (some ⟨K, 0, none⟩)], .func (.func 134) #[] #[.pointer (some ⟨K, 0, none⟩)], .int .i64 a, .int .i64 c]] w
      fun e w' => e = .returned (.int .i64 0) ∧ ∃ sv', PutLeft w w' b sv sv' (L ++ ueBits V) := by
  have O1 := hid (((Only.refl [] w).alloc (.cells #[.pointer (some ⟨b, 0, none⟩)] 76)).alloc (.cells #[.func (.func 133) #[] #[.pointer (some ⟨K, 0, none⟩)], .func (.func 134) #[] #[.pointer (some ⟨K, 0, none⟩)], .int .i64 a, .int .i64 c] 121))
  have hc1 := O1.out.cell hc (by simp)
  have C := hid (fun w (hw : Wr w b sv L) (hK : Boxed w K 3 (.int .i64 a)) => ue2_any b K a v V h0 h1 hv hV sv L w hw hK hL)
  have W1 := hid (fun w' (o : Only [] w w') => hw.only o (by simp) (by simp))
  have K1 := hid (fun w' (o : Only [] w w') => boxed_only hK o (by simp))
  clear hK
  clear hw hc hv
  go_enter Tryz.func32, Tryz.ntmps32
  go_wp2_with fail
  go_region_with ((go_at_call 134; refine (C.out _ (W1.out _ (by first | exact O1.out.drewN _ | exact O1.out.drew | exact O1.out)) (K1.out _ (by first | exact O1.out.drewN _ | exact O1.out.drew | exact O1.out))).mono ?_; rintro e w2 ⟨rfl, sv', hP⟩))
  all_goals
    go_wp2_with fail
    go_ret
    exact ⟨rfl, sv', ⟨hP.wr, fun g hg => (hP.own g hg).imp id (Nat.le_trans O1.out.size), (O1.out.drew.mono (by simp)).trans hP.only⟩⟩
set_option maxRecDepth 100000 in
set_option maxHeartbeats 2000000 in
theorem outnum_se (b k i K : Nat) (w : World) (a c v : Int) (h0 : -100 ≤ v) (h1 : v ≤ 100) (sv : Value) (L : List Bool) (hw : Wr w b sv L) (hc : w.cell? ⟨k, i, none⟩ = some (.int .i64 v)) (hL : L.length ≤ 10000000) :
    Calls Tryz.prog 32 #[.agg #[.pointer (some ⟨b, 0, none⟩)], .pointer (some ⟨k, i, none⟩), .agg #[.func (.func 141) #[] #[], .func (.func 143) #[] #[], .int .i64 a, .int .i64 c]] w
      fun e w' => e = .returned (.int .i64 0) ∧ ∃ sv', PutLeft w w' b sv sv' (L ++ ueBits (seNum v)) := by
  have O1 := hid (((Only.refl [] w).alloc (.cells #[.pointer (some ⟨b, 0, none⟩)] 76)).alloc (.cells #[.func (.func 141) #[] #[], .func (.func 143) #[] #[], .int .i64 a, .int .i64 c] 121))
  have hc1 := O1.out.cell hc (by simp)
  have C := hid (fun w (hw : Wr w b sv L) => se2_any b v h0 h1 sv L w hw hL)
  have W1 := hid (fun w' (o : Only [] w w') => hw.only o (by simp) (by simp))
  clear hw hc
  go_enter Tryz.func32, Tryz.ntmps32
  go_wp2_with fail
  go_region_with ((go_at_call 143; refine (C.out _ (W1.out _ (by first | exact O1.out.drewN _ | exact O1.out.drew | exact O1.out))).mono ?_; rintro e w2 ⟨rfl, sv', hP⟩))
  all_goals
    go_wp2_with fail
    go_ret
    exact ⟨rfl, sv', ⟨hP.wr, fun g hg => (hP.own g hg).imp id (Nat.le_trans O1.out.size), (O1.out.drew.mono (by simp)).trans hP.only⟩⟩
/-! ### Reading. -/
set_option maxRecDepth 100000 in
set_option maxHeartbeats 2000000 in
theorem innum_u (b k i K : Nat) (w : World) (n : Nat) (hn : n ≤ 16) (hK : Boxed w K 3 (.int .i64 n)) (hKb : K ≠ b) (s : ByteArray) (pos : Nat) (hw : Rd w b s pos) (t : TypeId) (A : Array Value) (v : Int) (hB : Blk w k t A) (hi : A[i]? = some (.int .i64 v)) (hkb : k ≠ b) :
    Calls Tryz.prog 98 #[.agg #[.pointer (some ⟨b, 0, none⟩)], .pointer (some ⟨k, i, none⟩), .agg #[.func (.func 131) #[] #[.pointer (some ⟨K, 0, none⟩)], .func (.func 132) #[] #[.pointer (some ⟨K, 0, none⟩)], .int .i64 0, .int .i64 (2 ^ n - 1)]] w
      fun e w' => e = .returned (.int .i64 ((rdM s).num (.u n) v pos).1) ∧ Only [k, b] w w' ∧ Rd w' b s ((rdM s).num (.u n) v pos).2.2 ∧ Blk w' k t (A.setIfInBounds i (.int .i64 ((rdM s).num (.u n) v pos).2.1)) := by
  have C := hid (fun w (hw : Rd w b s pos) (hK : Boxed w K 3 (.int .i64 n)) => u1_any b K n hn s pos w hw hK)
  have NC := hid (fun x w h => checknum_any k i x (.u n) (.func 131) (.func 132) #[.pointer (some ⟨K, 0, none⟩)] #[.pointer (some ⟨K, 0, none⟩)] w h)
  simp only [rdM]
  obtain ⟨x, er, q, hr⟩ : ∃ x er q, rdC s pos (.u n) = (x, er, q) := ⟨_, _, _, rfl⟩
  rw [hr] at C ⊢
  dsimp only at C ⊢
  obtain ⟨r, hz⟩ : ∃ r, r = (if er ≠ 0 then er else numC (.u n) x) := ⟨_, rfl⟩
  rw [← hz]
  replace NC := hid (NC.out x)
  obtain ⟨r2, hz2⟩ : ∃ r2, r2 = numC (.u n) x := ⟨_, rfl⟩
  rw [← hz2] at NC hz
  simp only [Cd.lo, Cd.hi] at NC
  have R := hid hz
  clear hz hz2
  have O1 := hid (((Only.refl [] w).alloc (.cells #[.pointer (some ⟨b, 0, none⟩)] 148)).alloc (.cells #[.func (.func 131) #[] #[.pointer (some ⟨K, 0, none⟩)], .func (.func 132) #[] #[.pointer (some ⟨K, 0, none⟩)], .int .i64 0, .int .i64 (2 ^ n - 1)] 121))
  have W1 := hid (hw.only O1.out (by simp))
  have B1 := hid (hB.only O1.out (by simp))
  have X1 := hid (show Blk ((w.alloc (.cells #[.pointer (some ⟨b, 0, none⟩)] 148)).alloc (.cells #[.func (.func 131) #[] #[.pointer (some ⟨K, 0, none⟩)], .func (.func 132) #[] #[.pointer (some ⟨K, 0, none⟩)], .int .i64 0, .int .i64 (2 ^ n - 1)] 121)) (w.heap.size + 1) 121 #[.func (.func 131) #[] #[.pointer (some ⟨K, 0, none⟩)], .func (.func 132) #[] #[.pointer (some ⟨K, 0, none⟩)], .int .i64 0, .int .i64 (2 ^ n - 1)] by
    have := Blk.new (w.alloc (.cells #[.pointer (some ⟨b, 0, none⟩)] 148)) 121 #[.func (.func 131) #[] #[.pointer (some ⟨K, 0, none⟩)], .func (.func 132) #[] #[.pointer (some ⟨K, 0, none⟩)], .int .i64 0, .int .i64 (2 ^ n - 1)]
    rw [World.size_alloc] at this
    exact this)
  have KL := hid (And.intro hB.lt hw.lt)
  have HI := hid hi
  have KB := hid hkb
  have K1 := hid (boxed_only hK O1.out (by simp))
  clear hK
  clear hw hB hr hi hkb hKb
  go_enter Tryz.func98, Tryz.ntmps98
  go_wp2_with fail
  refine (C.out _ W1.out K1.out).mono ?_
  rintro e w2 ⟨rfl, hR, hO⟩
  have B2 := hid (B1.out.only hO (by simpa using KB.out))
  have X2 := hid (X1.out.only hO (by have := KL.out; simp; omega))
  have R2 := hid hR
  have O2 := hid ((O1.out.mono (T := [k, b]) (by simp)).trans (hO.mono (T := [k, b]) (by intro y _ h; simp at h ⊢; exact .inr h)))
  have kc := B2.out.cell HI.out
  have kf := B2.out.frozen i
  clear hR hO B1 X1 W1 C O1
  have OS := hid ((Only.refl [k] w2).setCell (p := ⟨k, i, none⟩) (.inl (by simp)) (.int .i64 x))
  have B3 := hid (B2.out.set i (.int .i64 x))
  have X3 := hid (X2.out.only OS.out (by have := KL.out; simp; omega))
  have R3 := hid (R2.out.only OS.out (by simpa using Ne.symm KB.out))
  have O3 := hid (O2.out.trans (OS.out.mono (T := [k, b]) (by intro y _ h; simp at h ⊢; exact .inl h)))
  by_cases he : er = 0
  · subst he
    have x0 := X3.out.cell (i := 0) rfl
    have x1 := X3.out.cell (i := 1) rfl
    have x2 := X3.out.cell (i := 2) rfl
    have x3 := X3.out.cell (i := 3) rfl
    have BC := hid (World.cell?_setCell_same w2 ⟨k, i, none⟩ (.int .i64 x) kc)
    obtain rfl : r = r2 := by rw [R.out, if_neg (fun k => k rfl)]
    go_wp2_with fail
    refine (NC.out _ BC.out).mono ?_
    rintro e w4 ⟨rfl, hO4⟩
    go_wp2_with fail
    go_ret
    exact ⟨rfl, O3.out.trans (hO4.mono (by simp)), R3.out.only hO4 (by simp), B3.out.only hO4 (by simp)⟩
  · obtain rfl : r = er := by rw [R.out, if_pos he]
    clear R
    go_wp2_with fail
    go_ret
    exact ⟨rfl, O3.out, R3.out, B3.out⟩
set_option maxRecDepth 100000 in
set_option maxHeartbeats 2000000 in
theorem innum_ue (b k i K : Nat) (w : World) (a c : Int) (h0 : 0 ≤ a) (h1 : a ≤ 1) (hK : Boxed w K 3 (.int .i64 a)) (hKb : K ≠ b) (s : ByteArray) (pos : Nat) (hw : Rd w b s pos) (t : TypeId) (A : Array Value) (v : Int) (hB : Blk w k t A) (hi : A[i]? = some (.int .i64 v)) (hkb : k ≠ b) :
    Calls Tryz.prog 98 #[.agg #[.pointer (some ⟨b, 0, none⟩)], .pointer (some ⟨k, i, none⟩), .agg #[.func (.func 133) #[] #[.pointer (some ⟨K, 0, none⟩)], .func (.func 134) #[] #[.pointer (some ⟨K, 0, none⟩)], .int .i64 a, .int .i64 c]] w
      fun e w' => e = .returned (.int .i64 ((rdM s).num (.ue a c) v pos).1) ∧ Only [k, b] w w' ∧ Rd w' b s ((rdM s).num (.ue a c) v pos).2.2 ∧ Blk w' k t (A.setIfInBounds i (.int .i64 ((rdM s).num (.ue a c) v pos).2.1)) := by
  have C := hid (fun w (hw : Rd w b s pos) (hK : Boxed w K 3 (.int .i64 a)) => ue1_any b K a c h0 h1 s pos w hw hK hKb)
  have NC := hid (fun x w h => checknum_any k i x (.ue a c) (.func 133) (.func 134) #[.pointer (some ⟨K, 0, none⟩)] #[.pointer (some ⟨K, 0, none⟩)] w h)
  simp only [rdM]
  obtain ⟨x, er, q, hr⟩ : ∃ x er q, rdC s pos (.ue a c) = (x, er, q) := ⟨_, _, _, rfl⟩
  rw [hr] at C ⊢
  dsimp only at C ⊢
  obtain ⟨r, hz⟩ : ∃ r, r = (if er ≠ 0 then er else numC (.ue a c) x) := ⟨_, rfl⟩
  rw [← hz]
  replace NC := hid (NC.out x)
  obtain ⟨r2, hz2⟩ : ∃ r2, r2 = numC (.ue a c) x := ⟨_, rfl⟩
  rw [← hz2] at NC hz
  simp only [Cd.lo, Cd.hi] at NC
  have R := hid hz
  clear hz hz2
  have O1 := hid (((Only.refl [] w).alloc (.cells #[.pointer (some ⟨b, 0, none⟩)] 148)).alloc (.cells #[.func (.func 133) #[] #[.pointer (some ⟨K, 0, none⟩)], .func (.func 134) #[] #[.pointer (some ⟨K, 0, none⟩)], .int .i64 a, .int .i64 c] 121))
  have W1 := hid (hw.only O1.out (by simp))
  have B1 := hid (hB.only O1.out (by simp))
  have X1 := hid (show Blk ((w.alloc (.cells #[.pointer (some ⟨b, 0, none⟩)] 148)).alloc (.cells #[.func (.func 133) #[] #[.pointer (some ⟨K, 0, none⟩)], .func (.func 134) #[] #[.pointer (some ⟨K, 0, none⟩)], .int .i64 a, .int .i64 c] 121)) (w.heap.size + 1) 121 #[.func (.func 133) #[] #[.pointer (some ⟨K, 0, none⟩)], .func (.func 134) #[] #[.pointer (some ⟨K, 0, none⟩)], .int .i64 a, .int .i64 c] by
    have := Blk.new (w.alloc (.cells #[.pointer (some ⟨b, 0, none⟩)] 148)) 121 #[.func (.func 133) #[] #[.pointer (some ⟨K, 0, none⟩)], .func (.func 134) #[] #[.pointer (some ⟨K, 0, none⟩)], .int .i64 a, .int .i64 c]
    rw [World.size_alloc] at this
    exact this)
  have KL := hid (And.intro hB.lt hw.lt)
  have HI := hid hi
  have KB := hid hkb
  have K1 := hid (boxed_only hK O1.out (by simp))
  clear hK
  clear hw hB hr hi hkb hKb
  go_enter Tryz.func98, Tryz.ntmps98
  go_wp2_with fail
  refine (C.out _ W1.out K1.out).mono ?_
  rintro e w2 ⟨rfl, hR, hO⟩
  have B2 := hid (B1.out.only hO (by simpa using KB.out))
  have X2 := hid (X1.out.only hO (by have := KL.out; simp; omega))
  have R2 := hid hR
  have O2 := hid ((O1.out.mono (T := [k, b]) (by simp)).trans (hO.mono (T := [k, b]) (by intro y _ h; simp at h ⊢; exact .inr h)))
  have kc := B2.out.cell HI.out
  have kf := B2.out.frozen i
  clear hR hO B1 X1 W1 C O1
  have OS := hid ((Only.refl [k] w2).setCell (p := ⟨k, i, none⟩) (.inl (by simp)) (.int .i64 x))
  have B3 := hid (B2.out.set i (.int .i64 x))
  have X3 := hid (X2.out.only OS.out (by have := KL.out; simp; omega))
  have R3 := hid (R2.out.only OS.out (by simpa using Ne.symm KB.out))
  have O3 := hid (O2.out.trans (OS.out.mono (T := [k, b]) (by intro y _ h; simp at h ⊢; exact .inl h)))
  by_cases he : er = 0
  · subst he
    have x0 := X3.out.cell (i := 0) rfl
    have x1 := X3.out.cell (i := 1) rfl
    have x2 := X3.out.cell (i := 2) rfl
    have x3 := X3.out.cell (i := 3) rfl
    have BC := hid (World.cell?_setCell_same w2 ⟨k, i, none⟩ (.int .i64 x) kc)
    obtain rfl : r = r2 := by rw [R.out, if_neg (fun k => k rfl)]
    go_wp2_with fail
    refine (NC.out _ BC.out).mono ?_
    rintro e w4 ⟨rfl, hO4⟩
    go_wp2_with fail
    go_ret
    exact ⟨rfl, O3.out.trans (hO4.mono (by simp)), R3.out.only hO4 (by simp), B3.out.only hO4 (by simp)⟩
  · obtain rfl : r = er := by rw [R.out, if_pos he]
    clear R
    go_wp2_with fail
    go_ret
    exact ⟨rfl, O3.out, R3.out, B3.out⟩
set_option maxRecDepth 100000 in
set_option maxHeartbeats 2000000 in
theorem innum_se (b k i K : Nat) (w : World) (a c : Int) (s : ByteArray) (pos : Nat) (hw : Rd w b s pos) (t : TypeId) (A : Array Value) (v : Int) (hB : Blk w k t A) (hi : A[i]? = some (.int .i64 v)) (hkb : k ≠ b) :
    Calls Tryz.prog 98 #[.agg #[.pointer (some ⟨b, 0, none⟩)], .pointer (some ⟨k, i, none⟩), .agg #[.func (.func 141) #[] #[], .func (.func 143) #[] #[], .int .i64 a, .int .i64 c]] w
      fun e w' => e = .returned (.int .i64 ((rdM s).num (.se a c) v pos).1) ∧ Only [k, b] w w' ∧ Rd w' b s ((rdM s).num (.se a c) v pos).2.2 ∧ Blk w' k t (A.setIfInBounds i (.int .i64 ((rdM s).num (.se a c) v pos).2.1)) := by
  have C := hid (fun w (hw : Rd w b s pos) => se1_any b a c s pos w hw)
  have NC := hid (fun x w h => checknum_any k i x (.se a c) (.func 141) (.func 143) #[] #[] w h)
  simp only [rdM]
  obtain ⟨x, er, q, hr⟩ : ∃ x er q, rdC s pos (.se a c) = (x, er, q) := ⟨_, _, _, rfl⟩
  rw [hr] at C ⊢
  dsimp only at C ⊢
  obtain ⟨r, hz⟩ : ∃ r, r = (if er ≠ 0 then er else numC (.se a c) x) := ⟨_, rfl⟩
  rw [← hz]
  replace NC := hid (NC.out x)
  obtain ⟨r2, hz2⟩ : ∃ r2, r2 = numC (.se a c) x := ⟨_, rfl⟩
  rw [← hz2] at NC hz
  simp only [Cd.lo, Cd.hi] at NC
  have R := hid hz
  clear hz hz2
  have O1 := hid (((Only.refl [] w).alloc (.cells #[.pointer (some ⟨b, 0, none⟩)] 148)).alloc (.cells #[.func (.func 141) #[] #[], .func (.func 143) #[] #[], .int .i64 a, .int .i64 c] 121))
  have W1 := hid (hw.only O1.out (by simp))
  have B1 := hid (hB.only O1.out (by simp))
  have X1 := hid (show Blk ((w.alloc (.cells #[.pointer (some ⟨b, 0, none⟩)] 148)).alloc (.cells #[.func (.func 141) #[] #[], .func (.func 143) #[] #[], .int .i64 a, .int .i64 c] 121)) (w.heap.size + 1) 121 #[.func (.func 141) #[] #[], .func (.func 143) #[] #[], .int .i64 a, .int .i64 c] by
    have := Blk.new (w.alloc (.cells #[.pointer (some ⟨b, 0, none⟩)] 148)) 121 #[.func (.func 141) #[] #[], .func (.func 143) #[] #[], .int .i64 a, .int .i64 c]
    rw [World.size_alloc] at this
    exact this)
  have KL := hid (And.intro hB.lt hw.lt)
  have HI := hid hi
  have KB := hid hkb
  clear hw hB hr hi hkb
  go_enter Tryz.func98, Tryz.ntmps98
  go_wp2_with fail
  refine (C.out _ W1.out).mono ?_
  rintro e w2 ⟨rfl, hR, hO⟩
  have B2 := hid (B1.out.only hO (by simpa using KB.out))
  have X2 := hid (X1.out.only hO (by have := KL.out; simp; omega))
  have R2 := hid hR
  have O2 := hid ((O1.out.mono (T := [k, b]) (by simp)).trans (hO.mono (T := [k, b]) (by intro y _ h; simp at h ⊢; exact .inr h)))
  have kc := B2.out.cell HI.out
  have kf := B2.out.frozen i
  clear hR hO B1 X1 W1 C O1
  have OS := hid ((Only.refl [k] w2).setCell (p := ⟨k, i, none⟩) (.inl (by simp)) (.int .i64 x))
  have B3 := hid (B2.out.set i (.int .i64 x))
  have X3 := hid (X2.out.only OS.out (by have := KL.out; simp; omega))
  have R3 := hid (R2.out.only OS.out (by simpa using Ne.symm KB.out))
  have O3 := hid (O2.out.trans (OS.out.mono (T := [k, b]) (by intro y _ h; simp at h ⊢; exact .inl h)))
  by_cases he : er = 0
  · subst he
    have x0 := X3.out.cell (i := 0) rfl
    have x1 := X3.out.cell (i := 1) rfl
    have x2 := X3.out.cell (i := 2) rfl
    have x3 := X3.out.cell (i := 3) rfl
    have BC := hid (World.cell?_setCell_same w2 ⟨k, i, none⟩ (.int .i64 x) kc)
    obtain rfl : r = r2 := by rw [R.out, if_neg (fun k => k rfl)]
    go_wp2_with fail
    refine (NC.out _ BC.out).mono ?_
    rintro e w4 ⟨rfl, hO4⟩
    go_wp2_with fail
    go_ret
    exact ⟨rfl, O3.out.trans (hO4.mono (by simp)), R3.out.only hO4 (by simp), B3.out.only hO4 (by simp)⟩
  · obtain rfl : r = er := by rw [R.out, if_pos he]
    clear R
    go_wp2_with fail
    go_ret
    exact ⟨rfl, O3.out, R3.out, B3.out⟩
end Go.Proofs.YtjjjfmnhdnajkaaGreatDoor

end
section
set_option maxRecDepth 20000
namespace Go.Proofs.YtjjjfmnhdnajkaaGreatDoor
open Go.RowKit
set_option linter.unusedVariables false
set_option linter.unusedSimpArgs false

/-- What goes through a number leaves: an error, a number, a state. -/
def NumPost {σ : Type} (env : Nat → σ → List Nat → World → Prop) (r : Int × Int × σ) (n : Nat) (T : List Nat) (w : World) (k i : Nat) (t : TypeId) (a : Array Value) (e : Ending) (w' : World) : Prop :=
  e = .returned (.int .i64 r.1) ∧ Only (k :: T) w w' ∧ Blk w' k t (a.setIfInBounds i (.int .i64 r.2.1)) ∧ ∃ T', env (n + 1) r.2.2 T' w' ∧ ∀ x, x ∈ T' → x ∈ T ∨ w.heap.size ≤ x
/-- What goes through a list leaves. -/
def LstPost {σ : Type} (env : Nat → σ → List Nat → World → Prop) (l : List (Int × Int × Int)) (r : Int × List (Int × Int × Int) × σ) (n : Nat) (T : List Nat) (w : World) (k i : Nat) (t : TypeId) (a : Array Value) (e : Ending) (w' : World) : Prop :=
  e = .returned (.int .i64 r.1) ∧ Only (k :: T) w w' ∧ ∃ sv' T', Blk w' k t (a.setIfInBounds i sv') ∧ Sl w' sv' r.2.1 (k :: T') ∧ env (n + 1) r.2.2 T' w' ∧ (∀ x, x ∈ T' → x ∈ T ∨ w.heap.size ≤ x) ∧ ((a[i]? = some sv' ∧ l = r.2.1) ∨ FreshM w sv' r.2.1)
/-- Something that may be done with numbers and lists, in this memory. -/
structure Env {σ : Type} (M : Mach σ) where
  env : Nat → σ → List Nat → World → Prop
  d1 : Value
  d2 : Value
  X : List Nat
  keep : ∀ {n st T S w w'}, env n st T w → Only S w w' → (∀ x, x ∈ T → x ∉ S) → (∀ m, kindG m ∉ S) → env n st T w'
  lt : ∀ {n st T w}, env n st T w → ∀ x, x ∈ T → x < w.heap.size
  glob : ∀ {n st T w}, env n st T w → ∀ m, kindG m ∉ T ∧ kindG m < w.heap.size
  mono : ∀ {n st T w}, env n st T w → env (n + 1) st T w
  num : ∀ {c : Cd} {n st T w hb k i a t v cv K}, cdOk c → M.okN c v → n ≤ 60 → env n st T w → w.cell? ⟨hb, 41, none⟩ = some d1 → Blk w k t a → a[i]? = some (.int .i64 v) → k ∉ T → (∀ m, kindG m ≠ k) → CdAt w cv K c → K ∉ T →
    Calls Tryz.prog 111 #[.pointer (some ⟨hb, 0, none⟩), .bool true, .pointer (some ⟨k, i, none⟩), cv] w (NumPost env (M.num c v st) n T w k i t a)
  lst : ∀ {m : Bool} {l n st T w hb k i a t sv}, M.okL m l → n ≤ 60 → env n st T w → w.cell? ⟨hb, 42, none⟩ = some d2 → Blk w k t a → a[i]? = some sv → Sl w sv l (k :: T) → k ∉ T → (∀ m, kindG m ≠ k) →
    Calls Tryz.prog 115 #[.pointer (some ⟨hb, 0, none⟩), .bool true, .pointer (some ⟨k, i, none⟩), cmsV m] w (LstPost env l (M.lst m l st) n T w k i t a)

theorem outnum_any (c : Cd) (hk : cdOk c) (v : Int) (hv : numC c v = 0) (b k i K : Nat) (cv : Value) (w : World) (hC : CdAt w cv K c) (sv : Value) (L : List Bool) (hw : Wr w b sv L) (hc : w.cell? ⟨k, i, none⟩ = some (.int .i64 v)) (hL : L.length ≤ 10000000) :
    Calls Tryz.prog 32 #[.agg #[.pointer (some ⟨b, 0, none⟩)], .pointer (some ⟨k, i, none⟩), cv] w fun e w' => e = .returned (.int .i64 0) ∧ ∃ sv', PutLeft w w' b sv sv' (L ++ cdBits c v) := by
  have h' := numC_iff.1 hv
  cases c with
  | u n =>
    obtain ⟨k1, k2⟩ := hk
    simp only [Cd.lo, Cd.hi] at h'
    obtain ⟨V, rfl⟩ := Int.eq_ofNat_of_zero_le h'.1
    obtain ⟨N, rfl⟩ := Int.eq_ofNat_of_zero_le k1
    obtain ⟨rfl, hB⟩ := hC
    have hp : (2 : Int) ^ N = ((2 ^ N : Nat) : Int) := by rw [Int.natCast_pow]; rfl
    simp only [Int.ofNat_eq_natCast, Int.toNat_natCast] at h' hB ⊢
    exact outnum_u b k i K w N V (by omega) (by rw [hp] at h'; omega) hB sv L hw hc hL
  | ue a d =>
    obtain ⟨k1, k2, k3, k4⟩ := hk
    simp only [Cd.lo, Cd.hi] at h'
    obtain ⟨rfl, hB⟩ := hC
    exact outnum_ue b k i K w a d v (v - a).toNat k1 k2 (by omega) (by omega) hB sv L hw hc hL
  | se a d =>
    obtain ⟨k1, k2, k3⟩ := hk
    simp only [Cd.lo, Cd.hi] at h'
    obtain ⟨rfl, hB⟩ := hC
    exact outnum_se b k i K w a d v (by omega) (by omega) sv L hw hc hL
theorem innum_any (c : Cd) (hk : cdOk c) (v : Int) (b k i K : Nat) (cv : Value) (w : World) (hC : CdAt w cv K c) (hKb : K ≠ b) (s : ByteArray) (pos : Nat) (hw : Rd w b s pos) (t : TypeId) (A : Array Value) (hB : Blk w k t A) (hi : A[i]? = some (.int .i64 v)) (hkb : k ≠ b) :
    Calls Tryz.prog 98 #[.agg #[.pointer (some ⟨b, 0, none⟩)], .pointer (some ⟨k, i, none⟩), cv] w
      fun e w' => e = .returned (.int .i64 ((rdM s).num c v pos).1) ∧ Only [k, b] w w' ∧ Rd w' b s ((rdM s).num c v pos).2.2 ∧ Blk w' k t (A.setIfInBounds i (.int .i64 ((rdM s).num c v pos).2.1)) := by
  cases c with
  | u n =>
    obtain ⟨k1, k2⟩ := hk
    obtain ⟨N, rfl⟩ := Int.eq_ofNat_of_zero_le k1
    obtain ⟨rfl, hB2⟩ := hC
    exact innum_u b k i K w N (by have : (N : Int) ≤ 16 := k2; omega) hB2 hKb s pos hw t A v hB hi hkb
  | ue a d =>
    obtain ⟨k1, k2, k3, k4⟩ := hk
    obtain ⟨rfl, hB2⟩ := hC
    exact innum_ue b k i K w a d k1 k2 hB2 hKb s pos hw t A v hB hi hkb
  | se a d =>
    obtain ⟨rfl, hB2⟩ := hC
    exact innum_se b k i K w a d s pos hw t A v hB hi hkb
set_option maxRecDepth 100000 in
set_option maxHeartbeats 2000000 in
theorem number_chk (hb : Nat) (c : Cd) (k i : Nat) (v : Int) (cv : Value) (K : Nat) (w : World) (hc : w.cell? ⟨k, i, none⟩ = some (.int .i64 v)) (hd : w.cell? ⟨hb, 41, none⟩ = some (.func (.func 50) #[] #[])) (hK : CdAt w cv K c) :
    Calls Tryz.prog 111 #[.pointer (some ⟨hb, 0, none⟩), .bool true, .pointer (some ⟨k, i, none⟩), cv] w fun e w' => e = .returned (.int .i64 (numC c v)) ∧ Only [] w w' := by
  have C := hid (fun w' (o : Only [] w w') => show Calls Tryz.prog 50 #[.pointer (some ⟨k, i, none⟩), cv] w' fun e w' => e = .returned (.int .i64 (numC c v)) ∧ Only [] w w' by
    obtain ⟨g1, g2, c1, c2, rfl⟩ := hK.form
    exact (checknum_any k i v c g1 g2 c1 c2 w' (o.cell hc (by simp))).mono fun e w' ⟨a, b⟩ => ⟨a, o.trans b⟩)
  generalize numC c v = r at *
  clear hc
  obtain ⟨g1, g2, c1, c2, rfl⟩ := hK.form
  have O1 := hid ((Only.refl [] w).alloc (.cells #[.func g1 #[] c1, .func g2 #[] c2, .int .i64 c.lo, .int .i64 c.hi] 121))
  have hd1 := O1.out.cell hd (by simp)
  generalize c.lo = lo at *
  generalize c.hi = hi at *
  clear hK hd
  go_enter Tryz.func111, Tryz.ntmps111
  go_wp2_with fail
  go_region_with ((go_at_call 50; refine (C.out _ (by first | exact O1.out.drewN _ | exact O1.out.drew | exact O1.out)).mono ?_; rintro e w2 ⟨rfl, hO⟩))
  all_goals
    go_wp2_with fail
    go_ret
    exact ⟨rfl, hO⟩
set_option maxRecDepth 100000 in
set_option maxHeartbeats 2000000 in
theorem number_put (hb : Nat) (c : Cd) (k i : Nat) (v : Int) (cv : Value) (K : Nat) (w : World) (b : Nat) (hk : cdOk c) (hv : numC c v = 0) (sv : Value) (L : List Bool) (hw : Wr w b sv L) (hc : w.cell? ⟨k, i, none⟩ = some (.int .i64 v)) (hL : L.length ≤ 10000000) (hd : w.cell? ⟨hb, 41, none⟩ = some (.func (.func 32) #[.agg #[.pointer (some ⟨b, 0, none⟩)]] #[])) (hK : CdAt w cv K c) :
    Calls Tryz.prog 111 #[.pointer (some ⟨hb, 0, none⟩), .bool true, .pointer (some ⟨k, i, none⟩), cv] w fun e w' => e = .returned (.int .i64 0) ∧ ∃ sv', PutLeft w w' b sv sv' (L ++ cdBits c v) := by
  have C := hid (fun w' (o : Only [] w w') => show Calls Tryz.prog 32 #[.agg #[.pointer (some ⟨b, 0, none⟩)], .pointer (some ⟨k, i, none⟩), cv] w' fun e w' => e = .returned (.int .i64 0) ∧ ∃ sv', PutLeft w w' b sv sv' (L ++ cdBits c v) from
    (outnum_any c hk v hv b k i K cv w' (hK.only o (by simp)) sv L (hw.only o (by simp) (by simp)) (o.cell hc (by simp)) hL).mono fun e w' ⟨a, sv', hP⟩ => ⟨a, sv', hP.wr, fun g hg => (hP.own g hg).imp id (Nat.le_trans o.size), (o.mono (by simp)).trans hP.only⟩)
  clear hw hc hv hk
  obtain ⟨g1, g2, c1, c2, rfl⟩ := hK.form
  have O1 := hid ((Only.refl [] w).alloc (.cells #[.func g1 #[] c1, .func g2 #[] c2, .int .i64 c.lo, .int .i64 c.hi] 121))
  have hd1 := O1.out.cell hd (by simp)
  generalize c.lo = lo at *
  generalize c.hi = hi at *
  clear hK hd
  go_enter Tryz.func111, Tryz.ntmps111
  go_wp2_with fail
  go_region_with ((go_at_call 32; refine (C.out _ (by first | exact O1.out.drewN _ | exact O1.out.drew | exact O1.out)).mono ?_; rintro e w2 ⟨rfl, sv', hP⟩))
  all_goals
    go_wp2_with fail
    go_ret
    exact ⟨rfl, sv', hP⟩
set_option maxRecDepth 100000 in
set_option maxHeartbeats 2000000 in
theorem number_rd (hb : Nat) (c : Cd) (k i : Nat) (v : Int) (cv : Value) (K : Nat) (w : World) (b : Nat) (hk : cdOk c) (hKb : K ≠ b) (s : ByteArray) (pos : Nat) (hw : Rd w b s pos) (t : TypeId) (A : Array Value) (hB : Blk w k t A) (hi : A[i]? = some (.int .i64 v)) (hkb : k ≠ b) (hd : w.cell? ⟨hb, 41, none⟩ = some (.func (.func 98) #[.agg #[.pointer (some ⟨b, 0, none⟩)]] #[])) (hK : CdAt w cv K c) :
    Calls Tryz.prog 111 #[.pointer (some ⟨hb, 0, none⟩), .bool true, .pointer (some ⟨k, i, none⟩), cv] w fun e w' => e = .returned (.int .i64 ((rdM s).num c v pos).1) ∧ Only [k, b] w w' ∧ Rd w' b s ((rdM s).num c v pos).2.2 ∧ Blk w' k t (A.setIfInBounds i (.int .i64 ((rdM s).num c v pos).2.1)) := by
  have C := hid (fun w' (o : Only [] w w') => show Calls Tryz.prog 98 #[.agg #[.pointer (some ⟨b, 0, none⟩)], .pointer (some ⟨k, i, none⟩), cv] w' fun e w' => e = .returned (.int .i64 ((rdM s).num c v pos).1) ∧ Only [k, b] w w' ∧ Rd w' b s ((rdM s).num c v pos).2.2 ∧ Blk w' k t (A.setIfInBounds i (.int .i64 ((rdM s).num c v pos).2.1)) from
    (innum_any c hk v b k i K cv w' (hK.only o (by simp)) hKb s pos (hw.only o (by simp)) t A (hB.only o (by simp)) hi hkb).mono fun e w' ⟨a, h2, h3, h4⟩ => ⟨a, (o.mono (by simp)).trans h2, h3, h4⟩)
  generalize (rdM s).num c v pos = r at *
  obtain ⟨r1, r2, r3⟩ := r
  dsimp only at C ⊢
  clear hw hB hi hkb hk hKb
  obtain ⟨g1, g2, c1, c2, rfl⟩ := hK.form
  have O1 := hid ((Only.refl [] w).alloc (.cells #[.func g1 #[] c1, .func g2 #[] c2, .int .i64 c.lo, .int .i64 c.hi] 121))
  have hd1 := O1.out.cell hd (by simp)
  generalize c.lo = lo at *
  generalize c.hi = hi at *
  clear hK hd
  go_enter Tryz.func111, Tryz.ntmps111
  go_wp2_with fail
  go_region_with ((go_at_call 98; refine (C.out _ (by first | exact O1.out.drewN _ | exact O1.out.drew | exact O1.out)).mono ?_; rintro e w2 ⟨rfl, h1, h2, h3⟩))
  all_goals
    go_wp2_with fail
    go_ret
    exact ⟨rfl, h1, h2, h3⟩
end Go.Proofs.YtjjjfmnhdnajkaaGreatDoor

end
section
set_option maxRecDepth 20000
namespace Go.Proofs.YtjjjfmnhdnajkaaGreatDoor
open Go.RowKit
set_option linter.unusedVariables false
set_option linter.unusedSimpArgs false

set_option maxRecDepth 100000 in
set_option maxHeartbeats 2000000 in
theorem checklist_m (k i : Nat) (sv : Value) (l : List (Int × Int × Int)) (w : World) (hV : Vars w) (hc : w.cell? ⟨k, i, none⟩ = some sv) (hs : HoldsM w sv l) (ho : OksM l) :
    Calls Tryz.prog 51 #[.pointer (some ⟨k, i, none⟩), cmsV false] w fun e w' => e = .returned (.int .i64 (checkI false l)) ∧ Only [] w w' := by
  have O1 := hid ((Only.refl [] w).alloc (.cells #[.func (.func 135) #[] #[], .func (.func 136) #[] #[], .func (.func 137) #[] #[]] 127))
  have hc1 := O1.out.cell hc (by simp)
  have C := hid (fun w' (o : Only [] w w') => checkmods_any sv l w' (hV.only0 o) (hs.only0 o) ho)
  obtain ⟨a, c, rfl, _⟩ := hs
  generalize checkI false l = r at *
  simp only [cmsV]
  clear hc hV
  go_enter Tryz.func51, Tryz.ntmps51
  go_wp2_with fail
  go_region_with ((go_at_call 135; refine (C.out _ (by first | exact O1.out.drewN _ | exact O1.out.drew | exact O1.out)).mono ?_; rintro e w2 ⟨rfl, hO⟩))
  all_goals
    go_wp2_with fail
    go_ret
    exact ⟨rfl, O1.out.drew.trans hO⟩
set_option maxRecDepth 100000 in
set_option maxHeartbeats 2000000 in
theorem outlist_m (b k i : Nat) (lv sv : Value) (L : List Bool) (l : List (Int × Int × Int)) (w : World) (hV : Vars w) (hw : Wr w b sv L) (hc : w.cell? ⟨k, i, none⟩ = some lv) (hs : HoldsM w lv l) (ho : OksM l) (hd : Aside lv l b sv) (h0 : checkI false l = 0) (hL : L.length ≤ 1000000) :
    Calls Tryz.prog 33 #[.agg #[.pointer (some ⟨b, 0, none⟩)], .pointer (some ⟨k, i, none⟩), cmsV false] w fun e w' => e = .returned (.int .i64 0) ∧ ∃ sv', PutLeft w w' b sv sv' (L ++ listB false l) := by
  have O1 := hid (((Only.refl [] w).alloc (.cells #[.pointer (some ⟨b, 0, none⟩)] 76)).alloc (.cells #[.func (.func 135) #[] #[], .func (.func 136) #[] #[], .func (.func 137) #[] #[]] 127))
  have hc1 := O1.out.cell hc (by simp)
  have C := hid (fun w' (o : Only [] w w') => putmods_any b sv L lv l w' (hV.only0 o) (hw.only o (by simp) (by simp)) (hs.only0 o) ho hd hL)
  rw [show putI false L l = (0, L ++ listB false l) from by unfold putI; rw [if_neg (fun k => k h0)]] at C
  obtain ⟨a, c, rfl, _⟩ := hs
  simp only [cmsV]
  clear hc hV hw hd h0
  go_enter Tryz.func33, Tryz.ntmps33
  go_wp2_with fail
  go_region_with ((go_at_call 137; refine (C.out _ (by first | exact O1.out.drewN _ | exact O1.out.drew | exact O1.out)).mono ?_; rintro e w2 ⟨rfl, sv', hP⟩))
  all_goals
    go_wp2_with fail
    go_ret
    exact ⟨rfl, sv', ⟨hP.wr, fun g hg => (hP.own g hg).imp id (Nat.le_trans O1.out.size), (O1.out.drew.mono (by simp)).trans hP.only⟩⟩
set_option maxRecDepth 100000 in
set_option maxHeartbeats 2000000 in
theorem inlist_m (b k i : Nat) (s : ByteArray) (pos : Nat) (w : World) (hV : Vars w) (hw : Rd w b s pos) (t : TypeId) (A : Array Value) (lv : Value) (hB : Blk w k t A) (hi : A[i]? = some lv) (hkb : k ≠ b) :
    Calls Tryz.prog 99 #[.agg #[.pointer (some ⟨b, 0, none⟩)], .pointer (some ⟨k, i, none⟩), cmsV false] w
      fun e w' => e = .returned (.int .i64 (readI false s pos).2.1) ∧ Only [k, b] w w' ∧ Rd w' b s (readI false s pos).2.2 ∧ ∃ sv, Blk w' k t (A.setIfInBounds i sv) ∧ HoldsM w' sv (readI false s pos).1 ∧ FreshM w sv (readI false s pos).1 := by
  have C := hid (fun w' (o : Only [] w w') => mods_post b s pos w' (hV.only0 o) (hw.only o (by simp)))
  unfold ReadPost at C
  generalize readI false s pos = r at *
  obtain ⟨l, er, q⟩ := r
  dsimp only at C ⊢
  have O1 := hid (((Only.refl [] w).alloc (.cells #[.pointer (some ⟨b, 0, none⟩)] 148)).alloc (.cells #[.func (.func 135) #[] #[], .func (.func 136) #[] #[], .func (.func 137) #[] #[]] 127))
  have B1 := hid (hB.only O1.out (by simp))
  have HI := hid hi
  have KB := hid hkb
  have KL := hid hB.lt
  simp only [cmsV]
  clear hV hw hB hi hkb
  go_enter Tryz.func99, Tryz.ntmps99
  go_wp2_with fail
  refine (C.out _ O1.out).mono ?_
  rintro e w2 ⟨sv, rfl, hH, hR, hO, hF⟩
  obtain ⟨sa, sc, rfl, _⟩ := id hH
  have B2 := hid (B1.out.only hO (by simpa using KB.out))
  have R2 := hid hR
  have H2 := hid hH
  have F2 := hid (show FreshM w (.slice sa l.length sc) l from fun ad n c e hl => Nat.le_trans O1.out.size (hF ad n c e hl))
  have O2 := hid ((O1.out.mono (T := [k, b]) (by simp)).trans (hO.mono (T := [k, b]) (by intro y _ h; simp at h ⊢; exact .inr h)))
  have kc := B2.out.cell HI.out
  have kf := B2.out.frozen i
  clear hR hO hH hF B1 C O1
  have OS := hid ((Only.refl [k] w2).setCell (p := ⟨k, i, none⟩) (.inl (by simp)) (.slice sa l.length sc))
  go_wp2_with fail
  go_ret
  refine ⟨rfl, O2.out.trans (OS.out.mono (T := [k, b]) (by intro y _ h; simp at h ⊢; exact .inl h)), R2.out.only OS.out (by simpa using Ne.symm KB.out), _, B2.out.set i _, ?_, F2.out⟩
  exact H2.out.only2 OS.out (fun ad n c e hl hm => by have h1 := F2.out ad n c e hl; have h2 := KL.out; simp at hm; omega)
set_option maxRecDepth 100000 in
set_option maxHeartbeats 2000000 in
theorem checklist_k (k i : Nat) (sv : Value) (l : List (Int × Int × Int)) (w : World) (hV : Vars w) (hc : w.cell? ⟨k, i, none⟩ = some sv) (hs : HoldsM w sv l) (ho : OksM l) :
    Calls Tryz.prog 51 #[.pointer (some ⟨k, i, none⟩), cmsV true] w fun e w' => e = .returned (.int .i64 (checkI true l)) ∧ Only [] w w' := by
  have O1 := hid ((Only.refl [] w).alloc (.cells #[.func (.func 138) #[] #[], .func (.func 139) #[] #[], .func (.func 140) #[] #[]] 127))
  have hc1 := O1.out.cell hc (by simp)
  have C := hid (fun w' (o : Only [] w w') => checkmarks_any sv l w' (hV.only0 o) (hs.only0 o) ho)
  obtain ⟨a, c, rfl, _⟩ := hs
  generalize checkI true l = r at *
  simp only [cmsV]
  clear hc hV
  go_enter Tryz.func51, Tryz.ntmps51
  go_wp2_with fail
  go_region_with ((go_at_call 138; refine (C.out _ (by first | exact O1.out.drewN _ | exact O1.out.drew | exact O1.out)).mono ?_; rintro e w2 ⟨rfl, hO⟩))
  all_goals
    go_wp2_with fail
    go_ret
    exact ⟨rfl, O1.out.drew.trans hO⟩
set_option maxRecDepth 100000 in
set_option maxHeartbeats 2000000 in
theorem outlist_k (b k i : Nat) (lv sv : Value) (L : List Bool) (l : List (Int × Int × Int)) (w : World) (hV : Vars w) (hw : Wr w b sv L) (hc : w.cell? ⟨k, i, none⟩ = some lv) (hs : HoldsM w lv l) (ho : OksM l) (hd : Aside lv l b sv) (h0 : checkI true l = 0) (hL : L.length ≤ 1000000) :
    Calls Tryz.prog 33 #[.agg #[.pointer (some ⟨b, 0, none⟩)], .pointer (some ⟨k, i, none⟩), cmsV true] w fun e w' => e = .returned (.int .i64 0) ∧ ∃ sv', PutLeft w w' b sv sv' (L ++ listB true l) := by
  have O1 := hid (((Only.refl [] w).alloc (.cells #[.pointer (some ⟨b, 0, none⟩)] 76)).alloc (.cells #[.func (.func 138) #[] #[], .func (.func 139) #[] #[], .func (.func 140) #[] #[]] 127))
  have hc1 := O1.out.cell hc (by simp)
  have C := hid (fun w' (o : Only [] w w') => putmarks_any b sv L lv l w' (hV.only0 o) (hw.only o (by simp) (by simp)) (hs.only0 o) ho hd hL)
  rw [show putI true L l = (0, L ++ listB true l) from by unfold putI; rw [if_neg (fun k => k h0)]] at C
  obtain ⟨a, c, rfl, _⟩ := hs
  simp only [cmsV]
  clear hc hV hw hd h0
  go_enter Tryz.func33, Tryz.ntmps33
  go_wp2_with fail
  go_region_with ((go_at_call 140; refine (C.out _ (by first | exact O1.out.drewN _ | exact O1.out.drew | exact O1.out)).mono ?_; rintro e w2 ⟨rfl, sv', hP⟩))
  all_goals
    go_wp2_with fail
    go_ret
    exact ⟨rfl, sv', ⟨hP.wr, fun g hg => (hP.own g hg).imp id (Nat.le_trans O1.out.size), (O1.out.drew.mono (by simp)).trans hP.only⟩⟩
set_option maxRecDepth 100000 in
set_option maxHeartbeats 2000000 in
theorem inlist_k (b k i : Nat) (s : ByteArray) (pos : Nat) (w : World) (hV : Vars w) (hw : Rd w b s pos) (t : TypeId) (A : Array Value) (lv : Value) (hB : Blk w k t A) (hi : A[i]? = some lv) (hkb : k ≠ b) :
    Calls Tryz.prog 99 #[.agg #[.pointer (some ⟨b, 0, none⟩)], .pointer (some ⟨k, i, none⟩), cmsV true] w
      fun e w' => e = .returned (.int .i64 (readI true s pos).2.1) ∧ Only [k, b] w w' ∧ Rd w' b s (readI true s pos).2.2 ∧ ∃ sv, Blk w' k t (A.setIfInBounds i sv) ∧ HoldsM w' sv (readI true s pos).1 ∧ FreshM w sv (readI true s pos).1 := by
  have C := hid (fun w' (o : Only [] w w') => marks_post b s pos w' (hV.only0 o) (hw.only o (by simp)))
  unfold ReadPost at C
  generalize readI true s pos = r at *
  obtain ⟨l, er, q⟩ := r
  dsimp only at C ⊢
  have O1 := hid (((Only.refl [] w).alloc (.cells #[.pointer (some ⟨b, 0, none⟩)] 148)).alloc (.cells #[.func (.func 138) #[] #[], .func (.func 139) #[] #[], .func (.func 140) #[] #[]] 127))
  have B1 := hid (hB.only O1.out (by simp))
  have HI := hid hi
  have KB := hid hkb
  have KL := hid hB.lt
  simp only [cmsV]
  clear hV hw hB hi hkb
  go_enter Tryz.func99, Tryz.ntmps99
  go_wp2_with fail
  refine (C.out _ O1.out).mono ?_
  rintro e w2 ⟨sv, rfl, hH, hR, hO, hF⟩
  obtain ⟨sa, sc, rfl, _⟩ := id hH
  have B2 := hid (B1.out.only hO (by simpa using KB.out))
  have R2 := hid hR
  have H2 := hid hH
  have F2 := hid (show FreshM w (.slice sa l.length sc) l from fun ad n c e hl => Nat.le_trans O1.out.size (hF ad n c e hl))
  have O2 := hid ((O1.out.mono (T := [k, b]) (by simp)).trans (hO.mono (T := [k, b]) (by intro y _ h; simp at h ⊢; exact .inr h)))
  have kc := B2.out.cell HI.out
  have kf := B2.out.frozen i
  clear hR hO hH hF B1 C O1
  have OS := hid ((Only.refl [k] w2).setCell (p := ⟨k, i, none⟩) (.inl (by simp)) (.slice sa l.length sc))
  go_wp2_with fail
  go_ret
  refine ⟨rfl, O2.out.trans (OS.out.mono (T := [k, b]) (by intro y _ h; simp at h ⊢; exact .inl h)), R2.out.only OS.out (by simpa using Ne.symm KB.out), _, B2.out.set i _, ?_, F2.out⟩
  exact H2.out.only2 OS.out (fun ad n c e hl hm => by have h1 := F2.out ad n c e hl; have h2 := KL.out; simp at hm; omega)
set_option maxRecDepth 100000 in
set_option maxHeartbeats 2000000 in
theorem list_chk_m (hb k i : Nat) (l : List (Int × Int × Int)) (lv : Value) (w : World) (hV : Vars w) (hc : w.cell? ⟨k, i, none⟩ = some lv) (hs : HoldsM w lv l) (ho : OksM l) (hd : w.cell? ⟨hb, 42, none⟩ = some (.func (.func 51) #[] #[])) :
    Calls Tryz.prog 115 #[.pointer (some ⟨hb, 0, none⟩), .bool true, .pointer (some ⟨k, i, none⟩), cmsV false] w fun e w' => e = .returned (.int .i64 (checkI false l)) ∧ Only [] w w' := by
  have C := hid (fun w' (o : Only [] w w') => (checklist_m k i lv l w' (hV.only0 o) (o.cell hc (by simp)) (hs.only0 o) ho).mono (R' := fun e w' => e = .returned (.int .i64 (checkI false l)) ∧ Only [] w w') fun e w' ⟨a, b⟩ => ⟨a, o.trans b⟩)
  generalize checkI false l = r at *
  clear hV hc hs
  have O1 := hid ((Only.refl [] w).alloc (.cells #[.func (.func 135) #[] #[], .func (.func 136) #[] #[], .func (.func 137) #[] #[]] 127))
  have hd1 := O1.out.cell hd (by simp)
  simp only [cmsV] at C ⊢
  clear hd
  go_enter Tryz.func115, Tryz.ntmps115
  go_wp2_with fail
  go_region_with ((go_at_call 51; refine (C.out _ (by first | exact O1.out.drewN _ | exact O1.out.drew | exact O1.out)).mono ?_; rintro e w2 ⟨rfl, hO⟩))
  all_goals
    go_wp2_with fail
    go_ret
    exact ⟨rfl, hO⟩
set_option maxRecDepth 100000 in
set_option maxHeartbeats 2000000 in
theorem list_put_m (hb k i : Nat) (l : List (Int × Int × Int)) (lv : Value) (w : World) (b : Nat) (sv : Value) (L : List Bool) (hV : Vars w) (hw : Wr w b sv L) (hc : w.cell? ⟨k, i, none⟩ = some lv) (hs : HoldsM w lv l) (ho : OksM l) (ha : Aside lv l b sv) (h0 : checkI false l = 0) (hL : L.length ≤ 1000000) (hd : w.cell? ⟨hb, 42, none⟩ = some (.func (.func 33) #[.agg #[.pointer (some ⟨b, 0, none⟩)]] #[])) :
    Calls Tryz.prog 115 #[.pointer (some ⟨hb, 0, none⟩), .bool true, .pointer (some ⟨k, i, none⟩), cmsV false] w fun e w' => e = .returned (.int .i64 0) ∧ ∃ sv', PutLeft w w' b sv sv' (L ++ listB false l) := by
  have C := hid (fun w' (o : Only [] w w') => (outlist_m b k i lv sv L l w' (hV.only0 o) (hw.only o (by simp) (by simp)) (o.cell hc (by simp)) (hs.only0 o) ho ha h0 hL).mono (R' := fun e w' => e = .returned (.int .i64 0) ∧ ∃ sv', PutLeft w w' b sv sv' (L ++ listB false l)) fun e w' ⟨a, sv', hP⟩ => ⟨a, sv', hP.wr, fun g hg => (hP.own g hg).imp id (Nat.le_trans o.size), (o.mono (by simp)).trans hP.only⟩)
  clear hV hw hc hs ha h0
  have O1 := hid ((Only.refl [] w).alloc (.cells #[.func (.func 135) #[] #[], .func (.func 136) #[] #[], .func (.func 137) #[] #[]] 127))
  have hd1 := O1.out.cell hd (by simp)
  simp only [cmsV] at C ⊢
  clear hd
  go_enter Tryz.func115, Tryz.ntmps115
  go_wp2_with fail
  go_region_with ((go_at_call 33; refine (C.out _ (by first | exact O1.out.drewN _ | exact O1.out.drew | exact O1.out)).mono ?_; rintro e w2 ⟨rfl, sv', hP⟩))
  all_goals
    go_wp2_with fail
    go_ret
    exact ⟨rfl, sv', hP⟩
set_option maxRecDepth 100000 in
set_option maxHeartbeats 2000000 in
theorem list_rd_m (hb k i : Nat) (l : List (Int × Int × Int)) (lv : Value) (w : World) (b : Nat) (s : ByteArray) (pos : Nat) (hV : Vars w) (hw : Rd w b s pos) (t : TypeId) (A : Array Value) (hB : Blk w k t A) (hi : A[i]? = some lv) (hkb : k ≠ b) (hd : w.cell? ⟨hb, 42, none⟩ = some (.func (.func 99) #[.agg #[.pointer (some ⟨b, 0, none⟩)]] #[])) :
    Calls Tryz.prog 115 #[.pointer (some ⟨hb, 0, none⟩), .bool true, .pointer (some ⟨k, i, none⟩), cmsV false] w fun e w' => e = .returned (.int .i64 (readI false s pos).2.1) ∧ Only [k, b] w w' ∧ Rd w' b s (readI false s pos).2.2 ∧ ∃ sv, Blk w' k t (A.setIfInBounds i sv) ∧ HoldsM w' sv (readI false s pos).1 ∧ FreshM w sv (readI false s pos).1 := by
  have C := hid (fun w' (o : Only [] w w') => (inlist_m b k i s pos w' (hV.only0 o) (hw.only o (by simp)) t A lv (hB.only o (by simp)) hi hkb).mono (R' := fun e w' => e = .returned (.int .i64 (readI false s pos).2.1) ∧ Only [k, b] w w' ∧ Rd w' b s (readI false s pos).2.2 ∧ ∃ sv, Blk w' k t (A.setIfInBounds i sv) ∧ HoldsM w' sv (readI false s pos).1 ∧ FreshM w sv (readI false s pos).1) fun e w' ⟨a, h2, h3, sv, h4, h5, h6⟩ => ⟨a, (o.mono (by simp)).trans h2, h3, sv, h4, h5, fun ad n c e hl => Nat.le_trans o.size (h6 ad n c e hl)⟩)
  generalize readI false s pos = r at *
  obtain ⟨r1, r2, r3⟩ := r
  dsimp only at C ⊢
  clear hV hw hB hi hkb
  have O1 := hid ((Only.refl [] w).alloc (.cells #[.func (.func 135) #[] #[], .func (.func 136) #[] #[], .func (.func 137) #[] #[]] 127))
  have hd1 := O1.out.cell hd (by simp)
  simp only [cmsV] at C ⊢
  clear hd
  go_enter Tryz.func115, Tryz.ntmps115
  go_wp2_with fail
  go_region_with ((go_at_call 99; refine (C.out _ (by first | exact O1.out.drewN _ | exact O1.out.drew | exact O1.out)).mono ?_; rintro e w2 ⟨rfl, h1, h2, sv, h3, h4, h5⟩))
  all_goals
    go_wp2_with fail
    go_ret
    exact ⟨rfl, h1, h2, sv, h3, h4, h5⟩
set_option maxRecDepth 100000 in
set_option maxHeartbeats 2000000 in
theorem list_chk_k (hb k i : Nat) (l : List (Int × Int × Int)) (lv : Value) (w : World) (hV : Vars w) (hc : w.cell? ⟨k, i, none⟩ = some lv) (hs : HoldsM w lv l) (ho : OksM l) (hd : w.cell? ⟨hb, 42, none⟩ = some (.func (.func 51) #[] #[])) :
    Calls Tryz.prog 115 #[.pointer (some ⟨hb, 0, none⟩), .bool true, .pointer (some ⟨k, i, none⟩), cmsV true] w fun e w' => e = .returned (.int .i64 (checkI true l)) ∧ Only [] w w' := by
  have C := hid (fun w' (o : Only [] w w') => (checklist_k k i lv l w' (hV.only0 o) (o.cell hc (by simp)) (hs.only0 o) ho).mono (R' := fun e w' => e = .returned (.int .i64 (checkI true l)) ∧ Only [] w w') fun e w' ⟨a, b⟩ => ⟨a, o.trans b⟩)
  generalize checkI true l = r at *
  clear hV hc hs
  have O1 := hid ((Only.refl [] w).alloc (.cells #[.func (.func 138) #[] #[], .func (.func 139) #[] #[], .func (.func 140) #[] #[]] 127))
  have hd1 := O1.out.cell hd (by simp)
  simp only [cmsV] at C ⊢
  clear hd
  go_enter Tryz.func115, Tryz.ntmps115
  go_wp2_with fail
  go_region_with ((go_at_call 51; refine (C.out _ (by first | exact O1.out.drewN _ | exact O1.out.drew | exact O1.out)).mono ?_; rintro e w2 ⟨rfl, hO⟩))
  all_goals
    go_wp2_with fail
    go_ret
    exact ⟨rfl, hO⟩
set_option maxRecDepth 100000 in
set_option maxHeartbeats 2000000 in
theorem list_put_k (hb k i : Nat) (l : List (Int × Int × Int)) (lv : Value) (w : World) (b : Nat) (sv : Value) (L : List Bool) (hV : Vars w) (hw : Wr w b sv L) (hc : w.cell? ⟨k, i, none⟩ = some lv) (hs : HoldsM w lv l) (ho : OksM l) (ha : Aside lv l b sv) (h0 : checkI true l = 0) (hL : L.length ≤ 1000000) (hd : w.cell? ⟨hb, 42, none⟩ = some (.func (.func 33) #[.agg #[.pointer (some ⟨b, 0, none⟩)]] #[])) :
    Calls Tryz.prog 115 #[.pointer (some ⟨hb, 0, none⟩), .bool true, .pointer (some ⟨k, i, none⟩), cmsV true] w fun e w' => e = .returned (.int .i64 0) ∧ ∃ sv', PutLeft w w' b sv sv' (L ++ listB true l) := by
  have C := hid (fun w' (o : Only [] w w') => (outlist_k b k i lv sv L l w' (hV.only0 o) (hw.only o (by simp) (by simp)) (o.cell hc (by simp)) (hs.only0 o) ho ha h0 hL).mono (R' := fun e w' => e = .returned (.int .i64 0) ∧ ∃ sv', PutLeft w w' b sv sv' (L ++ listB true l)) fun e w' ⟨a, sv', hP⟩ => ⟨a, sv', hP.wr, fun g hg => (hP.own g hg).imp id (Nat.le_trans o.size), (o.mono (by simp)).trans hP.only⟩)
  clear hV hw hc hs ha h0
  have O1 := hid ((Only.refl [] w).alloc (.cells #[.func (.func 138) #[] #[], .func (.func 139) #[] #[], .func (.func 140) #[] #[]] 127))
  have hd1 := O1.out.cell hd (by simp)
  simp only [cmsV] at C ⊢
  clear hd
  go_enter Tryz.func115, Tryz.ntmps115
  go_wp2_with fail
  go_region_with ((go_at_call 33; refine (C.out _ (by first | exact O1.out.drewN _ | exact O1.out.drew | exact O1.out)).mono ?_; rintro e w2 ⟨rfl, sv', hP⟩))
  all_goals
    go_wp2_with fail
    go_ret
    exact ⟨rfl, sv', hP⟩
set_option maxRecDepth 100000 in
set_option maxHeartbeats 2000000 in
theorem list_rd_k (hb k i : Nat) (l : List (Int × Int × Int)) (lv : Value) (w : World) (b : Nat) (s : ByteArray) (pos : Nat) (hV : Vars w) (hw : Rd w b s pos) (t : TypeId) (A : Array Value) (hB : Blk w k t A) (hi : A[i]? = some lv) (hkb : k ≠ b) (hd : w.cell? ⟨hb, 42, none⟩ = some (.func (.func 99) #[.agg #[.pointer (some ⟨b, 0, none⟩)]] #[])) :
    Calls Tryz.prog 115 #[.pointer (some ⟨hb, 0, none⟩), .bool true, .pointer (some ⟨k, i, none⟩), cmsV true] w fun e w' => e = .returned (.int .i64 (readI true s pos).2.1) ∧ Only [k, b] w w' ∧ Rd w' b s (readI true s pos).2.2 ∧ ∃ sv, Blk w' k t (A.setIfInBounds i sv) ∧ HoldsM w' sv (readI true s pos).1 ∧ FreshM w sv (readI true s pos).1 := by
  have C := hid (fun w' (o : Only [] w w') => (inlist_k b k i s pos w' (hV.only0 o) (hw.only o (by simp)) t A lv (hB.only o (by simp)) hi hkb).mono (R' := fun e w' => e = .returned (.int .i64 (readI true s pos).2.1) ∧ Only [k, b] w w' ∧ Rd w' b s (readI true s pos).2.2 ∧ ∃ sv, Blk w' k t (A.setIfInBounds i sv) ∧ HoldsM w' sv (readI true s pos).1 ∧ FreshM w sv (readI true s pos).1) fun e w' ⟨a, h2, h3, sv, h4, h5, h6⟩ => ⟨a, (o.mono (by simp)).trans h2, h3, sv, h4, h5, fun ad n c e hl => Nat.le_trans o.size (h6 ad n c e hl)⟩)
  generalize readI true s pos = r at *
  obtain ⟨r1, r2, r3⟩ := r
  dsimp only at C ⊢
  clear hV hw hB hi hkb
  have O1 := hid ((Only.refl [] w).alloc (.cells #[.func (.func 138) #[] #[], .func (.func 139) #[] #[], .func (.func 140) #[] #[]] 127))
  have hd1 := O1.out.cell hd (by simp)
  simp only [cmsV] at C ⊢
  clear hd
  go_enter Tryz.func115, Tryz.ntmps115
  go_wp2_with fail
  go_region_with ((go_at_call 99; refine (C.out _ (by first | exact O1.out.drewN _ | exact O1.out.drew | exact O1.out)).mono ?_; rintro e w2 ⟨rfl, h1, h2, sv, h3, h4, h5⟩))
  all_goals
    go_wp2_with fail
    go_ret
    exact ⟨rfl, h1, h2, sv, h3, h4, h5⟩
end Go.Proofs.YtjjjfmnhdnajkaaGreatDoor

end
section
set_option maxRecDepth 20000
namespace Go.Proofs.YtjjjfmnhdnajkaaGreatDoor
open Go.RowKit
set_option linter.unusedVariables false
set_option linter.unusedSimpArgs false

/-- What goes through one field leaves, in the block k. -/
def FldPost {σ : Type} (env : Nat → σ → List Nat → World → Prop) (r : Int × Value × σ) (n : Nat) (T : List Nat) (w : World) (k i : Nat) (t : TypeId) (a : Array Value) (e : Ending) (w' : World) : Prop :=
  e = .returned (.int .i64 r.1) ∧ Only (k :: T) w w' ∧ Blk w' k t (a.setIfInBounds i r.2.1) ∧ ∃ T', env (n + 1) r.2.2 T' w' ∧ ∀ x, x ∈ T' → x ∈ T ∨ w.heap.size ≤ x
section
variable {σ : Type} {M : Mach σ} (E : Env M)
def numV (M : Mach σ) (has : Bool) (v : Int) (c : Cd) (st : σ) : Int × Value × σ := if has = true then ((M.num c v st).1, .int .i64 (M.num c v st).2.1, (M.num c v st).2.2) else (if v = 0 then 0 else 2, .int .i64 v, st)
def flagV (M : Mach σ) (has : Bool) (v : Bool) (st : σ) : Int × Value × σ := if has = true then ((M.num (.u 1) (b2i v) st).1, .bool (isOne (M.num (.u 1) (b2i v) st).2.1), (M.num (.u 1) (b2i v) st).2.2) else (if v = false then 0 else 2, .bool v, st)

set_option maxRecDepth 100000 in
set_option maxHeartbeats 2000000 in
theorem number_not (hb : Nat) (k i : Nat) (v : Int) (cv : Value) (K : Nat) (c : Cd) (w : World) (hK : CdAt w cv K c) (hc : w.cell? ⟨k, i, none⟩ = some (.int .i64 v)) :
    Calls Tryz.prog 111 #[.pointer (some ⟨hb, 0, none⟩), .bool false, .pointer (some ⟨k, i, none⟩), cv] w fun e w' => e = .returned (.int .i64 (if v = 0 then 0 else 2)) ∧ Only [] w w' := by
  obtain ⟨g1, g2, c1, c2, rfl⟩ := hK.form
  have O1 := hid ((Only.refl [] w).alloc (.cells #[.func g1 #[] c1, .func g2 #[] c2, .int .i64 c.lo, .int .i64 c.hi] 121))
  have hc1 := O1.out.cell hc (by simp)
  generalize c.lo = lo at *
  generalize c.hi = hi at *
  clear hK hc
  by_cases h0 : v = 0
  · subst h0
    go_enter Tryz.func111, Tryz.ntmps111
    go_wp2_with fail
    refine (absent_any _ _).mono ?_
    rintro e w2 ⟨rfl, rfl⟩
    go_wp2_with fail
    go_ret
    exact ⟨rfl, O1.out⟩
  · rw [if_neg h0]
    have hd : (v == 0) = false := by simpa using h0
    go_enter Tryz.func111, Tryz.ntmps111
    go_wp2_with fail
    refine (absent_any _ _).mono ?_
    rintro e w2 ⟨rfl, rfl⟩
    go_wp2_with fail
    go_ret
    exact ⟨by simp, O1.out⟩
theorem number_any {has : Bool} {c : Cd} {n st T w hb k i a t v cv K} (hk : cdOk c) (ho : has = true → M.okN c v) (hn : n ≤ 60) (he : E.env n st T w) (hd : w.cell? ⟨hb, 41, none⟩ = some E.d1) (hB : Blk w k t a) (hi : a[i]? = some (.int .i64 v)) (hkT : k ∉ T) (hG : ∀ m, kindG m ≠ k) (hC : CdAt w cv K c) (hK : K ∉ T) :
    Calls Tryz.prog 111 #[.pointer (some ⟨hb, 0, none⟩), .bool has, .pointer (some ⟨k, i, none⟩), cv] w (FldPost E.env (numV M has v c st) n T w k i t a) := by
  cases has with
  | true =>
    refine (E.num hk (ho rfl) hn he hd hB hi hkT hG hC hK).mono fun e w' ⟨h1, h2, h3, h4⟩ => ⟨h1, h2, h3, h4⟩
  | false =>
    refine (number_not hb k i v cv K c w hC (hB.cell hi)).mono fun e w' ⟨h1, h2⟩ => ⟨h1, h2.mono (by simp), ?_, T, ?_, fun x hx => .inl hx⟩
    · show Blk w' k t (a.setIfInBounds i (.int .i64 v))
      rw [hB.same hi]
      exact hB.only h2 (by simp)
    · exact E.mono (E.keep he h2 (by simp) (by simp))

theorem cd5' : cdOk (.u 1) := ⟨by omega, by omega⟩
theorem uC_one (w : World) : Calls Tryz.prog 112 #[.int .i64 1] w fun e w' => ∃ cv K, e = .returned cv ∧ CdAt w' cv K (.u 1) ∧ w.heap.size ≤ K ∧ Only [] w w' := uC_any 1 (by omega) w
set_option maxRecDepth 100000 in
set_option maxHeartbeats 4000000 in
theorem flag_any {has : Bool} {n st T w hb i a t} {v : Bool} (ho : has = true → M.okN (.u 1) (b2i v)) (hn : n ≤ 60) (he : E.env n st T w) (hd : w.cell? ⟨hb, 41, none⟩ = some E.d1) (hB : Blk w hb t a) (hi : a[i]? = some (.bool v)) (hkT : hb ∉ T) (hG : ∀ m, kindG m ≠ hb) :
    Calls Tryz.prog 114 #[.pointer (some ⟨hb, 0, none⟩), .bool has, .pointer (some ⟨hb, i, none⟩)] w (FldPost E.env (flagV M has v st) n T w hb i t a) := by
  have hlt := hB.lt
  have fc := hB.cell hi
  have TL := hid (E.lt he)
  have GL := hid (E.glob he)
  have HE := hid he
  have HB := hid hB
  have HD := hid hd
  have HT := hid (And.intro hkT (And.intro hG hi))
  have HO := hid ho
  obtain ⟨r, hr⟩ : ∃ r, r = numV M has (b2i v) (.u 1) st := ⟨_, rfl⟩
  have NA : ∀ (w1 : World) (k : Nat) (a1 : Array Value) (t1 : TypeId) (cv : Value) (K : Nat), E.env n st T w1 → w1.cell? ⟨hb, 41, none⟩ = some E.d1 → Blk w1 k t1 a1 → a1[0]? = some (.int .i64 (b2i v)) → k ∉ T → (∀ m, kindG m ≠ k) → CdAt w1 cv K (.u 1) → K ∉ T →
      Calls Tryz.prog 111 #[.pointer (some ⟨hb, 0, none⟩), .bool has, .pointer (some ⟨k, 0, none⟩), cv] w1 (FldPost E.env (numV M has (b2i v) (.u 1) st) n T w1 k 0 t1 a1) :=
    fun w1 k a1 t1 cv K h1 h2 h3 h4 h5 h6 h7 h8 => number_any E cd5' ho hn h1 h2 h3 h4 h5 h6 h7 h8
  replace NA := hid NA
  rw [← hr] at NA
  have FR : ∃ (x : Int) (y : Bool), r.2.1 = .int .i64 x ∧ isOne x = y ∧ flagV M has v st = (r.1, .bool y, r.2.2) := by
    subst hr
    unfold numV flagV
    cases has
    · refine ⟨b2i v, v, rfl, isOne_b2i v, ?_⟩
      cases v <;> rfl
    · exact ⟨_, _, rfl, rfl, rfl⟩
  obtain ⟨x, y, hx, hy, FR⟩ := FR
  rw [FR]
  obtain ⟨r1, r2, r3⟩ := r
  dsimp only at hx ⊢
  subst hx
  have XD : ((x == 1) = y) := by rw [← hy]; rfl
  clear hr FR hy he hB hd hkT hG hi ho hn
  cases v
  all_goals
    simp only [b2i, Bool.false_eq_true, if_false, if_true] at NA
    go_enter Tryz.func114, Tryz.ntmps114
    go_wp2_with fail
    generalize hw1 : w.alloc _ = w1
    have O1 := hid (show Only [] w w1 from hw1 ▸ (Only.refl [] w).alloc _)
    have N1 := hid (show Blk w1 w.heap.size 3 _ from hw1 ▸ Blk.new w _ _)
    clear hw1
    refine (uC_one _).mono ?_
    rintro e w2 ⟨cv, K, rfl, hC, hK, hO⟩
    have O2 := hid (O1.out.trans hO)
    have N2 := hid (N1.out.only hO (by simp))
    have C2 := hid hC
    have K2 := hid (Nat.le_trans N1.out.lt hK)
    clear hC hK hO
    go_wp2_with fail
    refine (NA.out _ _ _ _ _ _ (E.keep HE.out O2.out (by simp) (by simp)) (O2.out.cell HD.out (by simp)) N2.out rfl (fun h => by have := TL.out _ h; omega) (fun m h => by have := (GL.out m).2; omega) C2.out (fun h => by have h1 := TL.out _ h; have h2 := K2.out; omega)).mono ?_
    rintro e w3 ⟨rfl, hO3, hB3, T', hE3, hT3⟩
    have n3 := hB3.cell (i := 0) rfl
    have B3 := hid ((HB.out.only O2.out (by simp)).only hO3 (by have h1 := HT.out.1; simp; exact ⟨by omega, h1⟩))
    have f3 := B3.out.cell HT.out.2.2
    have g3 := B3.out.frozen i
    have O3 := hid (show Only (hb :: T) w w3 from (O2.out.mono (T := hb :: T) (by simp)).trans2 hO3 (fun y hy => by
      rcases List.mem_cons.1 hy with e | e
      · exact .inr (by omega)
      · exact .inl (List.mem_cons_of_mem _ e)))
    have T3 := hid (show ∀ y, y ∈ T' → y ∈ T ∨ w.heap.size ≤ y from fun y hy => (hT3 y hy).imp id (fun h => by have := O2.out.size; omega))
    have E3 := hid hE3
    clear hO3 hB3 hE3 hT3 NA
    go_wp2_with fail
    have OS := (Only.refl [hb] w3).setCell (p := ⟨hb, i, none⟩) (.inl (by simp)) (.bool y)
    go_ret
    refine ⟨rfl, O3.out.trans (OS.mono (fun k _ h => by simp at h ⊢; exact .inl h)), B3.out.set i _, T', E.keep E3.out OS (fun z hz h => ?_) (fun m h => HT.out.2.1 m (by simpa using h)), T3.out⟩
    have h1 := T3.out z hz
    simp at h
    subst h
    rcases h1 with h1 | h1
    · exact HT.out.1 h1
    · omega
set_option maxRecDepth 100000 in
set_option maxHeartbeats 2000000 in
theorem list_not (m : Bool) (hb : Nat) (k i : Nat) (l : List (Int × Int × Int)) (sv : Value) (w : World) (hs : HoldsM w sv l) (hc : w.cell? ⟨k, i, none⟩ = some sv) :
    Calls Tryz.prog 115 #[.pointer (some ⟨hb, 0, none⟩), .bool false, .pointer (some ⟨k, i, none⟩), cmsV m] w fun e w' => e = .returned (.int .i64 (if l = [] then 0 else 2)) ∧ Only [] w w' := by
  obtain ⟨ad, cp, rfl, _⟩ := hs
  have O1 := hid (fun o => ((Only.refl [] w).alloc o))
  have hc1 := fun o => (O1.out o).cell hc (by simp)
  by_cases h0 : l = []
  · subst h0
    cases m
    all_goals
      simp only [cmsV]
      go_enter Tryz.func115, Tryz.ntmps115
      go_wp2_with fail
      refine (absent_any _ _).mono ?_
      rintro e w2 ⟨rfl, rfl⟩
      go_wp2_with fail
      go_ret
      exact ⟨rfl, O1.out _⟩
  · rw [if_neg h0]
    have hl : ¬ l.length = 0 := fun e => h0 (List.length_eq_zero_iff.1 e)
    have hd : ((l.length : Int) == 0) = false := by rw [beq_eq_false_iff_ne]; omega
    generalize l.length = N at *
    clear h0
    cases m
    all_goals
      simp only [cmsV]
      go_enter Tryz.func115, Tryz.ntmps115
      go_wp2_with fail
      refine (absent_any _ _).mono ?_
      rintro e w2 ⟨rfl, rfl⟩
      go_wp2_with fail
      go_ret
      exact ⟨by simp, O1.out _⟩
end
end Go.Proofs.YtjjjfmnhdnajkaaGreatDoor

end

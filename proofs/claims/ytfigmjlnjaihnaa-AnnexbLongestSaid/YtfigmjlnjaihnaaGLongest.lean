/- AnnexbLongest: the walk. -/
import Derived.Test.YtfigmjlnjaihnaaKnown4
import Derived.OwnWalk
import Derived.Laws.MakeOwn
import Derived.Laws.IdiomStrings
import Derived.Deep.LoopGhost
import Derived.ProofKit
namespace Go.Proofs.Ytfigmjlnjaihnaa
open Go.RowKit
set_option linter.unusedVariables false

/-- A make, by what it does. -/
theorem wpList_make_eq {P : Program} (w : World) {ops : Array Oper} {rest : List Oper} {o : Oper} {a : Act} {Q : Exit → Act → World → Prop}
    (hg : o.guard = none) (l c : Operand) (t : TypeId) (hop : o.op = Op.makeSlice t l c) (lv cv : Value) (hl : a.eval l = lv) (hc : a.eval c = cv) (v : Value) (w' : World)
    (hrun : (Instr.makeSlice t lv cv).run P w = .ok v w') (hK : wpList P ops Q rest (a.put o.dst v) w') : wpList P ops Q (o :: rest) a w := by
  refine wpList_plain hg fun K hK' => ?_
  unfold Oper.wp
  simp [execOp, hop, hl, hc, hrun, Result.andThen]
  exact hK' _ _ hK
/-- The first j bytes are 9. -/
structure Nines (W : World) (n j : Nat) (w : World) : Prop where
  done : ∀ i, i < j → w.cell? ⟨W.heap.size, i, none⟩ = some (byteV 9)
  room : ∀ i, i < n → (w.cell? ⟨W.heap.size, i, none⟩).isSome = true ∧ w.frozen? ⟨W.heap.size, i, none⟩ = false
  only : Only [] W w
theorem Nines.step {W : World} {n j : Nat} {w : World} (h : Nines W n j w) (hj : j < n) : Nines W n (j + 1) (w.setCell ⟨W.heap.size, j, none⟩ (byteV 9)) := by
  obtain ⟨old, ho⟩ := Option.isSome_iff_exists.1 (h.room j hj).1
  refine ⟨fun i hi => ?_, fun i hi => ⟨?_, by rw [World.frozen?_setCell]; exact (h.room i hi).2⟩, h.only.setCell (.inr (by simp)) _⟩
  · by_cases e : i = j
    · subst e; exact World.cell?_setCell_same _ _ _ ho
    · rw [World.cell?_setCell_other _ _ _ _ (by simp <;> omega)]
      exact h.done i (by omega)
  · by_cases e : i = j
    · subst e; rw [World.cell?_setCell_same _ _ _ ho]; rfl
    · rw [World.cell?_setCell_other _ _ _ _ (by simp <;> omega)]
      exact (h.room i hi).1
theorem make_nines (W : World) (n : Nat) (hn : n ≤ 100000000) : ∃ w1, (Instr.makeSlice 36 (.int .i64 (n : Int)) (.int .i64 (n : Int))).run Try.prog W = .ok (.slice (some ⟨W.heap.size, 0, none⟩) n n) w1 ∧ Nines W n 0 w1 := by
  obtain ⟨i0, hi0, hz0, hs0, hb0⟩ := info_parts info_u8
  have hr := run_make (P := Try.prog) W 36 5 i0 _ und_bytes hi0 hz0 .i64 .i64 (n : Int) (n : Int) (by omega) (Int.le_refl _) (by rw [hb0]; omega) (by omega)
  simp only [Int.toNat_natCast] at hr
  refine ⟨_, hr, fun i hi => absurd hi (by omega), fun i hi => ⟨?_, World.frozen?_alloc_new _ _ _ _⟩, (Only.refl [] W).alloc _⟩
  rw [World.cell?_alloc_new, Array.getElem?_eq_getElem (by rw [size_madeCells, hs0]; omega)]
  rfl
theorem nines_conv {W : World} {n : Nat} {w : World} (h : Nines W n n w) (m : Nat) (hm : m = n) : (convert 36 9 (.slice (some ⟨W.heap.size, 0, none⟩) m m)).run Try.prog w = .ok (.string (strOf (List.replicate n 9))) w := by
  subst hm
  have := run_convert_bytes_back (P := Try.prog) w 36 9 5 ⟨W.heap.size, 0, none⟩ m (List.replicate m 9) und_bytes und_u8 und_str (fun j hj => by
    rw [addr_add, List.getElem_replicate]
    rw [List.length_replicate] at hj
    exact h.done j hj)
  rw [List.length_replicate] at this
  exact this
theorem nine_part (n k : Nat) (hk : k ≤ n) : (strOf (List.replicate n 9)).extract 0 k = strOf (List.replicate k 9) := by
  have : ((strOf (List.replicate n 9)).extract 0 k).data.toList = List.replicate k 9 := by
    rw [extract_take _ _ (by rw [strOf_size, List.length_replicate]; exact hk), strOf_list, List.take_replicate, Nat.min_eq_left hk]
  rw [← strOf_data ((strOf (List.replicate n 9)).extract 0 k), this]
theorem nine_may (k : Nat) (hk : 1 ≤ k) : mayAll [strOf (List.replicate k 9)] = true := by
  unfold mayAll
  rw [List.all_cons, List.all_nil, Bool.and_true, strOf_list]
  refine (mayB_iff _).2 ⟨fun h => ?_, ?_, fun i h => ?_⟩
  · have := congrArg List.length h
    rw [List.length_replicate, List.length_nil] at this
    omega
  · rw [List.getLast?_replicate]
    split
    · omega
    · decide
  · obtain ⟨h1, _⟩ := h
    have := List.mem_of_getElem? h1
    rw [List.mem_replicate] at this
    exact absurd this.2 (by decide)
theorem nine_len (u : ByteArray) : (joinF true [u]).length = u.size + 4 := by
  simp only [joinF, List.append_nil]
  unfold piece longB
  simp
theorem holds_single (w : World) (u : ByteArray) : Holds (w.alloc (.cells #[.string u] 9)) (.slice (some ⟨w.heap.size, 0, none⟩) 1 1) [u] :=
  holds_cells _ _ 1 [u] (fun j x hj => by
    have : j = 0 := by have := (List.getElem?_eq_some_iff.1 hj).1; simp at this; omega
    subst this
    rw [World.cell?_alloc_new]
    simpa using hj)
theorem join_one (u : ByteArray) (h : mayAll [u] = true) (hs : u.size + 4 ≤ 16777216) : joinR [u] = (strOf (joinF true [u]), 0) ∧ (strOf (joinF true [u])).size = u.size + 4 ∧ splitR (strOf (joinF true [u])) = ([u], 0) :=
  ⟨join_of [u] h (by rw [nine_len]; exact hs) (by simp), by rw [strOf_size, nine_len], back_of [u] h (by rw [nine_len]; exact hs) (by simp)⟩
theorem join_big (u : ByteArray) (h : mayAll [u] = true) (hs : 16777216 < u.size + 4) : joinR [u] = (⟨#[]⟩, 6) := by
  unfold joinR
  rw [if_neg (by simp), if_pos h, nine_len, if_pos hs]
set_option maxRecDepth 100000 in
set_option maxHeartbeats 8000000 in
theorem longest_walk (W : World) (hM : MaxL W) : Calls Try.prog 6 #[] W fun e w' => e = .returned (.bool true) ∧ Only [] W w' := by
  have KN := hid (fun w (o : Only [] W w) => known_any w (hM.only0 o))
  have ML := hid (fun w (o : Only [] W w) => hM.only0 o)
  obtain ⟨N, hN⟩ : ∃ N : Nat, N = 16777217 := ⟨_, rfl⟩
  obtain ⟨w0, hrun, hn0⟩ := make_nines W N (by omega)
  rw [show (N : Int) = 16777217 by omega] at hrun
  have NI := hid hn0
  have CV := hid (fun w (h : Nines W N N w) => nines_conv h N rfl)
  obtain ⟨U, hU⟩ : ∃ U, U = strOf (List.replicate N 9) := ⟨_, rfl⟩
  rw [← hU] at CV
  have us : U.size = N := by rw [hU, strOf_size, List.length_replicate]
  have EA : ∀ k, k ≤ N → U.extract 0 k = strOf (List.replicate k 9) := fun k hk => by rw [hU]; exact nine_part N k hk
  have ea := EA 16777212 (by omega)
  have eb := EA 16777213 (by omega)
  clear EA
  obtain ⟨A, hA⟩ : ∃ A, A = U.extract 0 16777212 := ⟨_, rfl⟩
  obtain ⟨B, hB⟩ : ∃ B, B = U.extract 0 16777213 := ⟨_, rfl⟩
  rw [← hA] at ea
  rw [← hB] at eb
  have az : A.size = 16777212 := by rw [ea, strOf_size, List.length_replicate]
  have bz : B.size = 16777213 := by rw [eb, strOf_size, List.length_replicate]
  have ma : mayAll [A] = true := by rw [ea]; exact nine_may _ (by omega)
  have mb : mayAll [B] = true := by rw [eb]; exact nine_may _ (by omega)
  obtain ⟨j1, j2, j3⟩ := join_one A ma (by omega)
  have j4 := join_big B mb (by omega)
  obtain ⟨S, hS⟩ : ∃ S, S = strOf (joinF true [A]) := ⟨_, rfl⟩
  rw [← hS] at j1 j2 j3
  have e0 : (⟨#[0]⟩ : ByteArray).size = 1 := rfl
  have s1 : splitR (S ++ (⟨#[0]⟩ : ByteArray)) = ([], 6) := splitR_long (by rw [ByteArray.size_append]; omega)
  have s2 : splitR U = ([], 6) := splitR_long (by omega)
  have C1 := hid (fun (v : Value) (w : World) (o : Only [] W w) (h : Holds w v [A]) => join_any v [A] w (hM.only0 o) h (by simp) (fun j u hj => by
    have := List.mem_of_getElem? hj
    rw [List.mem_singleton.1 this]; omega))
  rw [j1] at C1
  have C2 := hid (fun (v : Value) (w : World) (o : Only [] W w) (h : Holds w v [B]) => join_any v [B] w (hM.only0 o) h (by simp) (fun j u hj => by
    have := List.mem_of_getElem? hj
    rw [List.mem_singleton.1 this]; omega))
  rw [j4] at C2
  have P1 := hid (fun w (o : Only [] W w) => split_any S w (hM.only0 o) (by omega))
  rw [j3] at P1
  have P2 := hid (fun w (o : Only [] W w) => split_any (S ++ (⟨#[0]⟩ : ByteArray)) w (hM.only0 o) (by rw [ByteArray.size_append]; omega))
  rw [s1] at P2
  have P3 := hid (fun w (o : Only [] W w) => split_any U w (hM.only0 o) (by omega))
  rw [s2] at P3
  have nI : (N : Int) = 16777217 := by omega
  have nb : (N : Int) ≤ 16777217 := by omega
  have nb0 : (16777217 : Int) ≤ (N : Int) := by omega
  have uI : (16777217 : Int) ≤ (U.size : Int) := by omega
  have aI : (A.size : Int) = 16777212 := by omega
  have sI : (S.size : Int) = 16777216 := by omega
  have c0 : S.size + (⟨#[0]⟩ : ByteArray).size ≤ 9223372036854775807 := by omega
  have c1 : (S.size : Int) + 1 ≤ 9223372036854775807 := by omega
  have AH := hid hA
  have BH := hid hB
  have AI := hid aI
  have SI := hid sI
  have NN := hid hN
  clear hn0 hU us ea eb hA hB az bz ma mb j1 j2 j3 j4 hS e0 s1 s2 aI sI nI hN
  go_enter Try.func6, Try.ntmps6
  go_wp2_with (at_make; refine wpList_make_eq _ rfl _ _ _ rfl _ _ rfl rfl _ _ hrun ?_)
  clear hrun
  go_loopg [2] N (fun g i wr => ∃ j : Nat, j + g = N ∧ i = .int .i64 j ∧ Nines W N j wr)
  case atStart => exact ⟨0, by omega, rfl, NI.out⟩
  case round =>
    obtain ⟨j, hj, rfl, hNi⟩ := hrel
    have J := hid hj
    have NJ := hid hNi
    have jb : (j : Int) ≤ 16777217 := by omega
    have j0 : (0 : Int) ≤ (j : Int) := by omega
    by_cases hg : gk = 0
    · have jn : ¬ (j : Int) < (N : Int) := by omega
      obtain rfl : j = N := by omega
      have cv := CV.out wr NJ.out
      have O0 := hid hNi.only
      have ra := AH.out.symm
      have rb := BH.out.symm
      clear hj hg hNi
      go_wp2_with fail
      refine (C1.out _ _ (O0.out.alloc _) (holds_single _ A)).mono ?_
      rintro e w2 ⟨rfl, ho⟩
      have O2 := hid ((O0.out.alloc _).trans ho)
      clear ho
      go_wp2_with fail
      refine (C2.out _ _ (O2.out.alloc _) (holds_single _ B)).mono ?_
      rintro e w3 ⟨rfl, ho⟩
      have O3 := hid ((O2.out.alloc _).trans ho)
      have si := SI.out
      clear ho cv
      go_wp2_with fail
      refine (P1.out _ O3.out).mono ?_
      rintro e w4 ⟨sv4, rfl, hh, ho⟩
      obtain ⟨xa, ca, rfl, hx⟩ := hh
      obtain ⟨ad, rfl, hx0⟩ := hx 0 A rfl
      have O4 := hid (O3.out.trans ho)
      have X4 := hid (show w4.cell? ad = some (.string A) by simpa [Addr.add] using hx0)
      clear ho hx hx0
      go_wp2_with fail
      refine (P2.out _ O4.out).mono ?_
      rintro e w5 ⟨sv5, rfl, hh, ho⟩
      have O5 := hid (O4.out.trans ho)
      have X5 := hid (ho.cell X4.out (by simp))
      clear ho hh
      go_wp2_with fail
      refine (P3.out _ O5.out).mono ?_
      rintro e w6 ⟨sv6, rfl, hh, ho⟩
      have O6 := hid (O5.out.trans ho)
      have x6 := ho.cell X5.out (by simp)
      have ai := AI.out
      clear ho hh
      go_wp2_with fail
      refine (KN.out _ O6.out).mono ?_
      rintro e w7 ⟨rfl, ho⟩
      have O7 := hid (O6.out.trans ho)
      clear ho
      go_wp2_with fail
      go_ret
      exact ⟨rfl, O7.out⟩
    · have j1 : (j : Int) < (N : Int) := by omega
      have jl : j < N := by omega
      obtain ⟨g, rfl⟩ : ∃ g, gk = g + 1 := ⟨gk - 1, by omega⟩
      obtain ⟨old, hold⟩ := Option.isSome_iff_exists.1 (hNi.room j jl).1
      have hfr := (hNi.room j jl).2
      have NX := hid (hNi.step jl)
      clear hj hg hNi
      go_wp2_with fail
      go_roundg g
      case measure => omega
      case rel => exact ⟨j + 1, by have := J.out; omega, by go_num, NX.out⟩
theorem annexbLongest_core (W : World) (hM : MaxL W) (base : Nat) :
    Calls Try.prog 6 #[] W fun e w' => e = .returned (.bool true) ∧ Below W.heap.size W w' :=
  (longest_walk W hM).mono fun e w' ⟨he, ho⟩ => ⟨he, ho.below (Nat.le_refl _) (by simp)⟩
end Go.Proofs.Ytfigmjlnjaihnaa

/- SetsOrder: the walk. -/
import Derived.Test.YtkcjehajmofhfaaGOrderM
import Derived.Lib.AppendZeros
namespace Go.Proofs.Ytkcjehajmofhfaa
open Go.RowKit Go.Maps
set_option linter.unusedVariables false

abbrev noS : Int → Option SV := fun _ => none
abbrev noP : Int → Option PV := fun _ => none
set_option maxRecDepth 100000 in
set_option maxHeartbeats 16000000 in
theorem setsOrder_walk (W : World) (vl : Value) (l0 : List (Bool × Int × Int)) (at_ : Int) (bad0 : SV) (worse0 : PV) (hl : HoldsU W vl l0) :
    Calls Try.prog 6 #[vl, .int .i64 at_, sV bad0, pV worse0] W fun e w' => e = .returned (.bool true) ∧ Only [] W w' := by
  obtain ⟨m, hm⟩ : ∃ m, m = min l0.length 30 := ⟨_, rfl⟩
  obtain ⟨l, hlt⟩ : ∃ l, l = l0.take m := ⟨_, rfl⟩
  have hll : l.length = m := by rw [hlt, List.length_take]; omega
  have HL := hid hl
  obtain ⟨al, cl, rfl, hc1, hc2, _⟩ := hl
  have HP := hid (show HoldsU W (.slice al l.length cl) l from by rw [hll, hlt]; exact (HL.out.g.part m (by omega)).u)
  have hc1' : (l0.length : Int) ≤ (cl : Int) := by omega
  have hc2' : (cl : Int) ≤ 9223372036854775807 := by unfold maxLen at hc2; omega
  have HM := hid hm
  have HLL := hid hll
  have LB := hid (show l.length ≤ 30 by omega)
  clear hc1 hc2 hm hlt hll
  go_enter Try.func6, Try.ntmps6
  go_upto_region 1 with (fail)
  go_cut [0] from 21 to 25 (fun s0 wx => s0 = .slice al l.length cl ∧ wx = (W.alloc (.cells #[.int .u8 bad0.pr, .int .u8 bad0.fl, .int .u8 bad0.lv, .int .i64 bad0.id, .int .i64 bad0.fb, .int .i64 bad0.pb, .int .i64 bad0.rf, .int .i64 bad0.wd, .int .i64 bad0.ht] 28)).alloc (.cells #[.int .i64 worse0.id, .int .i64 worse0.sps, .bool worse0.cab, .int .i64 worse0.rf, .int .i64 worse0.r1, .int .i64 worse0.qp, .int .i64 worse0.qs, .int .i64 worse0.ch, .bool worse0.db, .bool worse0.nt] 30))
  case first =>
    rcases Nat.lt_or_ge 30 l0.length with h | h
    · have h30 : (30 : Int) < (l0.length : Int) := by omega
      have e : l.length = 30 := by have := HM.out; have := HLL.out; omega
      have E := hid e
      clear h e
      go_wp2_with fail
      go_meet
      exact ⟨by rw [E.out], rfl⟩
    · have h30 : ¬ (30 : Int) < (l0.length : Int) := by omega
      have h30' : (l0.length : Int) ≤ 30 := by omega
      have e : l.length = l0.length := by have := HM.out; have := HLL.out; omega
      have E := hid e
      clear h e
      go_wp2_with fail
      go_meet
      exact ⟨by rw [E.out], rfl⟩
  case rest =>
  obtain ⟨rfl, hw⟩ := hcut
  clear hc1' hc2'
  obtain ⟨B1, hB1⟩ : ∃ B1, B1 = W.heap.size := ⟨_, rfl⟩
  have OC := (show Only [] W wc from hw ▸ ((Only.refl [] W).alloc _).alloc _)
  have A1 := (show SAt wc W.heap.size 0 bad0 from hw ▸ (SAt.new W bad0 _).only ((Only.refl [] _).alloc _) (by simp))
  have A2 := (show PAt wc (W.heap.size + 1) 0 worse0 from hw ▸ (by simpa using PAt.new (W.alloc (.cells (sC bad0) 28)) worse0 30))
  have F1 : ∀ o, wc.frozen? ⟨W.heap.size, o, none⟩ = false := fun o => by
    rw [hw]
    exact (((Only.refl [] (W.alloc (.cells (sC bad0) 28))).alloc _).frozen (p := ⟨W.heap.size, o, none⟩) (by simp) (by simp)).trans (by simp)
  have F2 : ∀ o, wc.frozen? ⟨W.heap.size + 1, o, none⟩ = false := fun o => by
    rw [hw]
    simp
  have LC : W.heap.size + 2 = wc.heap.size := by rw [hw]; simp
  rw [← hB1] at A1 A2 F1 F2 LC ⊢
  obtain ⟨B2, hB2⟩ : ∃ B2, B2 = B1 + 1 := ⟨_, rfl⟩
  rw [← hB2] at A2 F2 ⊢
  have HC := hid (And.intro OC (And.intro A1 (And.intro A2 (And.intro F1 (And.intro F2 (And.intro LC (And.intro hB1 hB2)))))))
  clear hw OC A1 A2 F1 F2 LC hB1 hB2
  go_wp2_with fail
  refine (new_any _).mono ?_
  rintro e w1 ⟨rfl, s1, o1⟩
  obtain ⟨S, hS⟩ : ∃ S, S = wc.heap.size := ⟨_, rfl⟩
  rw [← hS] at s1 ⊢
  have S1 := hid s1
  have O1 := hid o1
  have HS := hid hS
  clear s1 o1 hS
  go_wp2_with fail
  refine (new_any _).mono ?_
  rintro e w2 ⟨rfl, s2, o2⟩
  obtain ⟨T, hT⟩ : ∃ T, T = w1.heap.size := ⟨_, rfl⟩
  rw [← hT] at s2 ⊢
  have ST : S < T := by have := S1.out.lt S (by simp); omega
  obtain ⟨OC, A1, A2, F1, F2, LC, hB1, hB2⟩ := HC.out
  have X0 := (show Sit W w2 B1 B2 S T [S] [T] noS noP noS noP 0 0 bad0 worse0 from
    ⟨S1.out.only o2 (by simp), s2, fun y hy => by rw [List.mem_singleton.1 hy, HS.out]; omega, fun y hy => by rw [List.mem_singleton.1 hy]; have := HS.out; omega, fun y hy => by rw [List.mem_singleton.1 hy]; simp; omega, A1.only (O1.out.trans o2) (by simp), A2.only (O1.out.trans o2) (by simp), by omega, by omega, OC.trans (O1.out.trans o2)⟩)
  have c4 := X0.a1.c4
  have c3 := X0.a2.c3
  have f4 : w2.frozen? ⟨B1, 4, none⟩ = false := ((O1.out.trans o2).frozen (p := ⟨B1, 4, none⟩) (show B1 < wc.heap.size by omega) (by simp)).trans (F1 4)
  have f3 : w2.frozen? ⟨B2, 3, none⟩ = false := ((O1.out.trans o2).frozen (p := ⟨B2, 3, none⟩) (show B2 < wc.heap.size by omega) (by simp)).trans (F2 3)
  have nb : ¬ B1 = B2 := by omega
  have nb' : ¬ B2 = B1 := by omega
  have Z := hid X0
  rw [Nat.zero_add] at c4 c3
  clear X0 OC A1 A2 F1 F2 LC hB1 hB2 ST s2 o2 hT HC S1 O1 HS
  go_upto_block 0 with fail
  generalize hw3 : (w2.setCell _ _).setCell _ _ = w3
  have X3 := hid (show Sit W w3 B1 B2 S T [S] [T] noS noP noS noP 0 0 (badF bad0) (worF worse0) from hw3 ▸ Z.out.fix)
  clear hw3 Z c4 c3 f4 f3 nb nb'
  go_cut [11] from 36 to 47 (fun _ wx => ∃ Ls, Sit W wx B1 B2 S T Ls [T] (putsF noS l) (putsG noP l) noS noP 30 0 (badF bad0) (worF worse0))
  case first =>
    go_wp2_with fail
    go_loopg [11] l.length (fun gh t wr => ∃ j : Nat, j + gh = l.length ∧ t = .int .i64 j ∧ ∃ Ls, Sit W wr B1 B2 S T Ls [T] (putsF noS (l.take j)) (putsG noP (l.take j)) noS noP j 0 (badF bad0) (worF worse0))
    case atStart => exact ⟨0, by omega, rfl, _, X3.out⟩
    case round =>
      obtain ⟨j, hj, rfl, Ls, hS⟩ := hrel
      have XJ := hid hS
      have LL := LB.out
      clear hS
      by_cases hg : gk = 0
      · have i1 : ¬ (j : Int) < (l.length : Int) := by omega
        have XE := hid (show Sit W wr B1 B2 S T Ls [T] (putsF noS l) (putsG noP l) noS noP 30 0 (badF bad0) (worF worse0) from by
          have a := XJ.out
          rw [List.take_of_length_le (by omega)] at a
          exact ⟨a.ss.mono (by omega), a.st, a.ks, a.kt, a.d, a.a1, a.a2, a.b1, a.b2, a.o⟩)
        clear hj hg LL
        go_wp2_with fail
        go_meet
        exact ⟨Ls, XE.out⟩
      · have i1 : (j : Int) < (l.length : Int) := by omega
        have jb : (j : Int) < 30 := by omega
        have i0 : (0 : Int) ≤ (j : Int) := by omega
        obtain ⟨gg, rfl⟩ : ∃ gg, gk = gg + 1 := ⟨gk - 1, by omega⟩
        obtain ⟨x, X⟩ : ∃ x, l[j]? = some x := ⟨_, List.getElem?_eq_getElem (by omega : j < l.length)⟩
        have PX := hid (And.intro (putsF_one noS X) (putsG_one noP X))
        obtain ⟨xb, xo, rfl, hx⟩ := HP.out.at X
        obtain ⟨x0, x1, x2⟩ := hx.only XJ.out.o (by simp)
        have JN := hid (show j + 1 + gg = l.length ∧ j < 30 by omega)
        clear hj hg X hx LL
        go_wp2_with fail
        refine (lput_any XJ.out.ss x (by have := JN.out; unfold maxLen; omega)).mono ?_
        rintro e wa ⟨rfl, Ls', sa, oa, la⟩
        have XN := hid (show Sit W wa B1 B2 S T Ls' [T] (putsF noS (l.take (j + 1))) (putsG noP (l.take (j + 1))) noS noP (j + 1) 0 (badF bad0) (worF worse0) from by
          rw [PX.out.1, PX.out.2]; exact XJ.out.putS sa oa la)
        clear x0 x1 x2 sa oa la
        go_wp2_with fail
        go_roundg gg
        case measure => omega
        case rel => exact ⟨j + 1, JN.out.1, by go_num, Ls', XN.out⟩
  case rest =>
  obtain ⟨Ls, hS⟩ := hcut
  have X4 := hid hS
  clear hS X3
  obtain ⟨so, wo, hrun, hrow, honly, hown⟩ := append_rowsG (w := wc) uC_ok put_row (.slice none 0 0) (.slice al l.length cl) [] l (RowG.nil _) (HP.out.only0 X4.out.o).g (by have := LB.out; simp; omega)
  have HS0 := hrow.holds uC_ok
  have FR := hrow.frozen
  obtain ⟨ao, co, rfl, hco, hco2, _⟩ := HS0
  have OW := hid (show Ordr wo [T] (.slice ao l.length co) l from ⟨(hrow.holds uC_ok).u, fun a k c e => by
    injection e with e1 e2 e3
    subst e1
    have h1 := hrow.lt a.block (by simp [ownG, Value.ownBlock])
    have h2 := hown a.block (by simp [ownG, Value.ownBlock])
    have h3 := X4.out.st.lt T (by simp)
    refine ⟨?_, h1⟩
    rcases h2 with h2 | h2
    · simp [ownG, Value.ownBlock] at h2
    · simp; omega⟩)
  have FO := hid (show ∀ a, ao = some a → ∀ o, wo.frozen? ⟨a.block, o, none⟩ = false from fun a e => FR a.block (by rw [e]; simp [ownG, Value.ownBlock]))
  have AZ := hid (show ∀ a, ao = some a → wc.heap.size ≤ a.block from fun a e => by
    have h2 := hown a.block (by rw [e]; simp [ownG, Value.ownBlock])
    rcases h2 with h2 | h2
    · simp [ownG, Value.ownBlock] at h2
    · exact h2)
  have X5 := hid (X4.out.only (honly.mono (by simp [ownG, Value.ownBlock])))
  have CO := hid hco
  clear hrow hown honly FR hco hco2
  have hrun2 := hrun
  go_upto_if 52 with (at_builtin; refine Lib.wpList_append_run _ rfl _ _ _ _ rfl _ _ rfl rfl _ _ hrun ?_)
  clear hrun hrun2
  go_cut [13, 14, 15] from 49 to 89 (fun _ _ _ wx => OrdP W wx B1 B2 S T Ls (.slice ao l.length co) l (badF bad0) (worF worse0))
  case first =>
    rcases Nat.lt_or_ge 1 l.length with h | h
    · have i1 : (1 : Int) < (l.length : Int) := by omega
      have i2 : (l.length : Int) ≤ 30 := by have := LB.out; omega
      obtain ⟨K, hK⟩ : ∃ K : Nat, at_ % ((l.length : Int) - 1) = (K : Int) := by
        have := Int.emod_nonneg at_ (show (l.length : Int) - 1 ≠ 0 by omega)
        exact ⟨(at_ % ((l.length : Int) - 1)).toNat, by omega⟩
      have hlt : (K : Int) < (l.length : Int) - 1 := by rw [← hK]; exact Int.emod_lt_of_pos _ (by omega)
      have HK := hid hK
      have k1 : (K : Int) < (l.length : Int) := by omega
      have k2 : (K : Int) + 1 < (l.length : Int) := by omega
      have k0 : (0 : Int) ≤ (K : Int) := by omega
      obtain ⟨a, ha⟩ : ∃ a, l[K]? = some a := ⟨_, List.getElem?_eq_getElem (by omega : K < l.length)⟩
      obtain ⟨b, hb⟩ : ∃ b, l[K + 1]? = some b := ⟨_, List.getElem?_eq_getElem (by omega : K + 1 < l.length)⟩
      obtain ⟨gb, go_, hao, UA⟩ := OW.out.1.at ha
      obtain ⟨gb', go', e, UB⟩ := OW.out.1.at hb
      rw [hao] at e
      cases e
      have HAO := hid hao
      have HA := hid ha
      have HB := hid hb
      have UAH := hid UA
      have UBH := hid UB
      clear h hK hlt ha hb hao
      go_wp2_with fail
      refine (mod_kk at_ ((l.length : Int) - 1) K _ (by omega) (by omega) HK.out).mono ?_
      rintro e w' ⟨rfl, rfl⟩
      go_upto_region 13 with (fail)
      rw [HAO.out]
      go_cut [14, 15] from 58 to 66 (fun s14 s15 wx => ∃ q r, s14 = .pointer (some ⟨q, 0, none⟩) ∧ s15 = .pointer (some ⟨r, 0, none⟩) ∧ UAt wx q 0 a ∧ UAt wx r 0 b ∧ Only [] wo wx ∧ wo.heap.size ≤ q ∧ wo.heap.size ≤ r)
      case first =>
        obtain ⟨a0, a1, a2⟩ := UA
        obtain ⟨b0, b1, b2⟩ := UB
        have P1 := fun o1 : Obj => UAH.out.only ((Only.refl [] wo).alloc o1) (by simp)
        have P2 := fun o1 o2 : Obj => UAH.out.only (((Only.refl [] wo).alloc o1).alloc o2) (by simp)
        have R1 := fun o1 : Obj => UBH.out.only ((Only.refl [] wo).alloc o1) (by simp)
        have R2 := fun o1 o2 : Obj => UBH.out.only (((Only.refl [] wo).alloc o1).alloc o2) (by simp)
        have p10 := fun o1 => (P1 o1).c0
        have p11 := fun o1 => (P1 o1).c1
        have p12 := fun o1 => (P1 o1).c2
        have p20 := fun o1 o2 => (P2 o1 o2).c0
        have p21 := fun o1 o2 => (P2 o1 o2).c1
        have p22 := fun o1 o2 => (P2 o1 o2).c2
        have r10 := fun o1 => (R1 o1).c0
        have r11 := fun o1 => (R1 o1).c1
        have r12 := fun o1 => (R1 o1).c2
        have r20 := fun o1 o2 => (R2 o1 o2).c0
        have r21 := fun o1 o2 => (R2 o1 o2).c1
        have r22 := fun o1 o2 => (R2 o1 o2).c2
        clear P1 P2 R1 R2
        go_region
        all_goals
          go_wp2_with fail
          go_meet
          first
            | exact ⟨_, _, rfl, rfl, (UAt.two wo _ a b).1, (UAt.two wo _ a b).2, (((Only.refl [] wo).alloc _).alloc _).drew, by omega, by omega⟩
            | exact ⟨_, _, rfl, rfl, (UAt.two wo _ b a).2, (UAt.two wo _ b a).1, (((Only.refl [] wo).alloc _).alloc _).drew, by omega, by omega⟩
      case rest =>
        obtain ⟨q, r, rfl, rfl, uq, ur, oq, lq, lr⟩ := hcut
        have lg := (OW.out.2 ⟨gb, go_, none⟩ _ _ (by rw [HAO.out])).2
        have GB := hid (show B2 < gb ∧ gb ∉ Ls from by
          have := AZ.out _ HAO.out
          have := X4.out.lt2
          exact ⟨by simp only at *; omega, fun hy => by have := X4.out.ss.lt _ hy; simp only at *; omega⟩)
        have NQ := hid (show (¬ gb = q ∧ ¬ q = gb) ∧ (¬ gb = r ∧ ¬ r = gb) by simp only at lg; omega)
        have UQ := hid uq
        have UR := hid ur
        have OQ := hid oq
        clear uq ur oq UA UB lq lr lg
        obtain ⟨c, hc⟩ : ∃ c, c = ((a.1 != b.1) || (a.2.1 % 4 != b.2.1 % 4)) := ⟨_, rfl⟩
        have HC := hid hc
        clear hc
        go_upto_region 14 with (fail)
        go_cut [80] from 67 to 79 (fun s80 wx => s80 = .bool c ∧ Only [] wc wx)
        case first =>
          obtain ⟨q0, q1, q2⟩ := UQ.out
          obtain ⟨r0, r1, r2⟩ := UR.out
          rw [Nat.zero_add] at q1 q2 r1 r2
          have HC2 := HC.out
          have M1 := hid (fun w => mod_s a.2.1 4 w (by decide) (by decide))
          have M2 := hid (fun w => mod_s b.2.1 4 w (by decide) (by decide))
          cases ea : a.1 <;> cases eb : b.1
          all_goals
            rw [ea] at q0
            rw [eb] at r0
            rw [ea, eb] at HC2
            clear ea eb
            cases hd : (a.2.1 % 4 != b.2.1 % 4)
          all_goals
            rw [hd] at HC2
            subst HC2
            go_quiet ((go_at_call 21; first | with_reducible exact Calls.quiet_of_same (M1.out _) | with_reducible exact Calls.quiet_of_same (M2.out _)))
            go_wp2_with fail
            go_meet
            exact ⟨rfl, (Only.refl [] _).drewN _⟩
        case rest =>
          obtain ⟨rfl, or⟩ := hcut
          have OR := hid (OQ.out.trans or)
          have UQ2 := hid (UQ.out.only or (by simp))
          have UR2 := hid (UR.out.only or (by simp))
          have UA2 := hid (UAH.out.only OR.out (by simp))
          have UB2 := hid (UBH.out.only OR.out (by simp))
          have X6 := hid (X5.out.only OR.out)
          have OW6 := hid (OW.out.only OR.out)
          have FR := hid (show ∀ o, wc.frozen? ⟨gb, o, none⟩ = false from fun o => (OR.out.frozen (p := ⟨gb, o, none⟩) (OW.out.2 ⟨gb, go_, none⟩ _ _ (by rw [HAO.out])).2 (by simp)).trans (FO.out _ HAO.out o))
          clear or OQ UQ UR UAH UBH
          cases c with
          | false =>
            go_wp2_with fail
            rw [← HAO.out]
            go_meet
            exact ⟨l, OW6.out, rfl, rfl, rfl, X6.out⟩
          | true =>
            obtain ⟨q0, q1, q2⟩ := UQ2.out
            obtain ⟨r0, r1, r2⟩ := UR2.out
            rw [Nat.zero_add] at q1 q2 r1 r2
            obtain ⟨a0, a1, a2⟩ := UA2.out
            obtain ⟨b0, b1, b2⟩ := UB2.out
            have fr := FR.out
            obtain ⟨⟨n1, n2⟩, n3, n4⟩ := NQ.out
            go_wp2_with fail
            go_region
            all_goals
              go_wp2_with fail
              rw [← HAO.out]
              go_meet
              rw [HAO.out]
              exact (OrdP.swap (by rw [← HAO.out]; exact OW6.out) HA.out HB.out X6.out HC.out.symm GB.out).drew
    · have i1 : ¬ (1 : Int) < (l.length : Int) := by omega
      clear h
      go_wp2_with fail
      go_meet
      exact ⟨l, OW.out, rfl, rfl, rfl, X5.out⟩
  case rest =>
  obtain ⟨ord, hO, hF, hG, hN, hS⟩ := hcut
  have RO := hid hO
  have RF := hid (And.intro hF (And.intro hG hN))
  have X7 := hid hS
  clear hO hF hG hN hS OW AZ FO X5 X4 CO
  go_upto_block 2 with fail
  go_cut [16] from 90 to 123 (fun _ wx => ∃ Lt, Sit W wx B1 B2 S T Ls Lt (putsF noS l) (putsG noP l) (putsF noS l) (putsG noP l) 30 60 (badF bad0) (worF worse0))
  case first =>
    go_wp2_with fail
    go_loopg [16] l.length (fun gh t wr => ∃ j : Nat, j + gh = l.length ∧ t = .int .i64 j ∧ ∃ Lt, Sit W wr B1 B2 S T Ls Lt (putsF noS l) (putsG noP l) (putsF noS (ord.take j)) (putsG noP (ord.take j)) 30 (2 * j) (badF bad0) (worF worse0) ∧ Ordr wr Lt (.slice ao l.length co) ord)
    case atStart => exact ⟨0, by omega, rfl, _, X7.out, RO.out⟩
    case round =>
      obtain ⟨j, hj, rfl, Lt, hS, hO⟩ := hrel
      have XJ := hid hS
      have OJ := hid hO
      have LL := LB.out
      clear hS hO
      by_cases hg : gk = 0
      · have i1 : ¬ (j : Int) < (l.length : Int) := by omega
        have XE := hid (show Sit W wr B1 B2 S T Ls Lt (putsF noS l) (putsG noP l) (putsF noS l) (putsG noP l) 30 60 (badF bad0) (worF worse0) from by
          have a := XJ.out
          have b := RF.out
          rw [List.take_of_length_le (by omega), b.1, b.2.1] at a
          exact ⟨a.ss, a.st.mono (by omega), a.ks, a.kt, a.d, a.a1, a.a2, a.b1, a.b2, a.o⟩)
        clear hj hg LL
        go_wp2_with fail
        go_meet
        exact ⟨Lt, XE.out⟩
      · have i1 : (j : Int) < (l.length : Int) := by omega
        have jb : (j : Int) < 30 := by omega
        have i0 : (0 : Int) ≤ (j : Int) := by omega
        obtain ⟨gg, rfl⟩ : ∃ gg, gk = gg + 1 := ⟨gk - 1, by omega⟩
        have ol := RF.out.2.2
        obtain ⟨x, X⟩ : ∃ x, ord[j]? = some x := ⟨_, List.getElem?_eq_getElem (by omega : j < ord.length)⟩
        have PX := hid (And.intro (putsF_one noS X) (putsG_one noP X))
        obtain ⟨xb, xo, rfl, hx⟩ := OJ.out.1.at X
        have HX := hid hx
        obtain ⟨x0, x1, x2⟩ := hx
        have JN := hid (show j + 1 + gg = l.length ∧ j < 30 by omega)
        clear hj hg X LL ol
        go_wp2_with fail
        refine (lput_any XJ.out.st x (by have := JN.out; unfold maxLen; omega)).mono ?_
        rintro e wa ⟨rfl, La, sa, oa, la⟩
        have XA := hid (XJ.out.putT sa oa la)
        have OA := hid (OJ.out.put oa la)
        have HX2 := hid (HX.out.only oa (OJ.out.2 ⟨xb, xo, none⟩ _ _ rfl).1)
        clear x0 x1 x2 sa oa la XJ OJ HX
        obtain ⟨x0, x1, x2⟩ := HX2.out
        go_wp2_with fail
        refine (lput_any XA.out.st x (by have := JN.out; unfold maxLen; omega)).mono ?_
        rintro e wb ⟨rfl, Lb, sb, ob, lb⟩
        have XB := hid (XA.out.putT sb ob lb)
        have OB := hid (OA.out.put ob lb)
        clear x0 x1 x2 sb ob lb XA OA HX2
        obtain ⟨a0, a1, a2, a3, a4, a5, a6, a7, a8⟩ := XB.out.a1.all
        go_wp2_with fail
        refine (PutSps_no XB.out.st (badF bad0) (bad_no bad0)).mono ?_
        rintro e wc ⟨rfl, Lc, sc, oc, lc⟩
        have XC := hid (XB.out.putT sc oc lc)
        have OC := hid (OB.out.put oc lc)
        clear a0 a1 a2 a3 a4 a5 a6 a7 a8 sc oc lc XB OB
        obtain ⟨a0, a1, a2, a3, a4, a5, a6, a7, a8, a9⟩ := XC.out.a2.all
        go_wp2_with fail
        refine (PutPps_no XC.out.st (worF worse0) (worse_no worse0)).mono ?_
        rintro e wd ⟨rfl, Ld, sd, od, ld⟩
        have XD := hid (show Sit W wd B1 B2 S T Ls Ld (putsF noS l) (putsG noP l) (putsF noS (ord.take (j + 1))) (putsG noP (ord.take (j + 1))) 30 (2 * (j + 1)) (badF bad0) (worF worse0) from by
          rw [PX.out.1, PX.out.2]
          have a := XC.out.putT sd od ld
          rw [putF_twice, putG_twice] at a
          exact a)
        have OD := hid (OC.out.put od ld)
        clear a0 a1 a2 a3 a4 a5 a6 a7 a8 a9 sd od ld XC OC
        go_wp2_with fail
        go_roundg gg
        case measure => omega
        case rel => exact ⟨j + 1, JN.out.1, by go_num, Ld, XD.out, OD.out⟩
  case rest =>
  obtain ⟨Lt, hS⟩ := hcut
  have X8 := hid hS
  clear hS X7 RO
  go_upto_block 4 with fail
  go_cut [17, 18, 19, 20] from 124 to 141 (fun _ _ _ _ wx => Only [] W wx)
  case first =>
    go_wp2_with fail
    go_loopg [17] 4 (fun g t wr => ∃ j : Nat, j + g = 4 ∧ t = .int .i64 j ∧ Sit W wr B1 B2 S T Ls Lt (putsF noS l) (putsG noP l) (putsF noS l) (putsG noP l) 30 60 (badF bad0) (worF worse0))
    case atStart => exact ⟨0, by omega, rfl, X8.out⟩
    case round =>
      obtain ⟨j, hj, rfl, hT⟩ := hrel
      have XJ := hid hT
      clear hT
      by_cases hg : gk = 0
      · have i1 : ¬ (j : Int) < 4 := by omega
        clear hj hg
        go_wp2_with fail
        go_meet
        exact XJ.out.o
      · have i1 : (j : Int) < 4 := by omega
        obtain ⟨gg, rfl⟩ : ∃ gg, gk = gg + 1 := ⟨gk - 1, by omega⟩
        have JN := hid (show j + 1 + gg = 4 by omega)
        clear hj hg
        obtain ⟨p, s, e0, hr⟩ : ∃ p s e0, getR (putsF noS l) (putsG noP l) j = (p, s, e0) := ⟨_, _, _, rfl⟩
        have HR := hid hr
        clear hr
        go_wp2_with fail
        refine (get_any XJ.out.ss j HR.out).mono ?_
        rintro e wa ⟨rfl, oa⟩
        have OA := hid oa
        clear oa
        go_wp2_with fail
        refine (has_any (XJ.out.st.only ((OA.out.alloc _).alloc _) (by simp)) j p s e0 (r := true) (by rw [HR.out]; simp)).mono ?_
        rintro e wb ⟨rfl, ob⟩
        have XN := hid (XJ.out.only (((OA.out.alloc _).alloc _).trans ob))
        clear ob OA
        go_wp2_with fail
        go_roundg gg
        case measure => omega
        case rel => exact ⟨j + 1, JN.out, by go_num, XN.out⟩
  case rest =>
  have OF := hid hcut
  clear hcut X8
  go_wp2_with fail
  refine (awake_any _).mono ?_
  rintro e w9 ⟨rfl, o9⟩
  have O9 := hid (OF.out.trans o9)
  clear o9
  go_wp2_with fail
  go_ret
  exact ⟨rfl, O9.out⟩
end Go.Proofs.Ytkcjehajmofhfaa

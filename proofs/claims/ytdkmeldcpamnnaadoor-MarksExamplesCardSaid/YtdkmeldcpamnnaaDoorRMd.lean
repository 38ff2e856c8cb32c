/- The reference's Read: the walk. -/
import Derived.Test.YtdkmeldcpamnnaaDoorRMr
import Derived.Test.YtdkmeldcpamnnaaDoorRrC
import Derived.Deep.QuietTactic
namespace Go.Proofs.YtdkmeldcpamnnaaDoor
open Go.RowKit
set_option linter.unusedVariables false

/-- Between two rounds. -/
structure RdS (w1 wr : World) (D c : Nat) (s : ByteArray) (q : Nat) (E : Int) (out : Value) (done : List (Int × Int × Int)) : Prop where
  sc : Sc wr D c E
  rd : Rd wr c s q
  row : RowM wr out done
  only : Only [c, D] w1 wr
  own : ∀ g, g ∈ ownOf out → w1.heap.size ≤ g
theorem RdS.drewN {w1 wr : World} {D c : Nat} {s : ByteArray} {q : Nat} {E : Int} {out : Value} {done : List (Int × Int × Int)} (h : RdS w1 wr D c s q E out done) (n : Nat) : RdS w1 (wr.drewN n) D c s q E out done :=
  ⟨h.sc.drewN n, h.rd.drewN n, h.row.only ((Only.refl [] _).drewN n) (by simp), h.only.drewN n, h.own⟩
/-- A step that changes the scan and its reader alone. -/
theorem RdS.step {w1 wr w2 : World} {D c : Nat} {s : ByteArray} {q q' : Nat} {E E' : Int} {out : Value} {done : List (Int × Int × Int)} (h : RdS w1 wr D c s q E out done) (hD : D < w1.heap.size) (hc : c < w1.heap.size) (k1 : Sc w2 D c E') (k2 : Rd w2 c s q') (k3 : Only [c, D] wr w2) : RdS w1 w2 D c s q' E' out done :=
  ⟨k1, k2, h.row.only k3 (fun g hg => by have := h.own g hg; simp; omega), h.only.trans k3, h.own⟩

/-- A step that changes another block alone. -/
theorem RdS.other {w1 wr w2 : World} {D c M : Nat} {s : ByteArray} {q : Nat} {E : Int} {out : Value} {done : List (Int × Int × Int)} (h : RdS w1 wr D c s q E out done) (k : Only [M] wr w2) (hM : w1.heap.size ≤ M) (hc : c < M) (hD : D < M) (ho : M ∉ ownOf out) : RdS w1 w2 D c s q E out done :=
  ⟨h.sc.only k (by simp; omega), h.rd.only k (by simp; omega), h.row.only k (fun g hg => by simp; exact fun e => ho (e ▸ hg)), h.only.trans2 k (fun x hx => .inr (by rw [List.mem_singleton.1 hx]; exact hM)), h.own⟩
/-- The command that is being read. -/
structure Mc (w : World) (M : Nat) (x : Int × Int × Int) : Prop where
  c0 : w.cell? ⟨M, 0, none⟩ = some (.int .u8 x.1)
  c1 : w.cell? ⟨M, 1, none⟩ = some (.int .i64 x.2.1)
  c2 : w.cell? ⟨M, 2, none⟩ = some (.int .i64 x.2.2)
  f1 : w.frozen? ⟨M, 1, none⟩ = false
  f2 : w.frozen? ⟨M, 2, none⟩ = false
theorem Mc.only {S : List Nat} {w w' : World} {M : Nat} {x : Int × Int × Int} (h : Mc w M x) (k : Only S w w') (hM : M ∉ S) : Mc w' M x :=
  have hl : M < w.heap.size := World.block_lt_of_cell? _ _ h.c0
  ⟨k.cell h.c0 hM, k.cell h.c1 hM, k.cell h.c2 hM, (k.frozen hl hM).trans h.f1, (k.frozen hl hM).trans h.f2⟩
theorem Mc.set1 {w : World} {M : Nat} {a x y : Int} (h : Mc w M (a, x, y)) (z : Int) : Mc (w.setCell ⟨M, 1, none⟩ (.int .i64 z)) M (a, z, y) :=
  ⟨by rw [World.cell?_setCell_other _ _ _ _ (by simp)]; exact h.c0, World.cell?_setCell_same _ _ _ h.c1, by rw [World.cell?_setCell_other _ _ _ _ (by simp)]; exact h.c2, by simp [h.f1], by simp [h.f2]⟩
theorem Mc.set2 {w : World} {M : Nat} {a x y : Int} (h : Mc w M (a, x, y)) (z : Int) : Mc (w.setCell ⟨M, 2, none⟩ (.int .i64 z)) M (a, x, z) :=
  ⟨by rw [World.cell?_setCell_other _ _ _ _ (by simp)]; exact h.c0, by rw [World.cell?_setCell_other _ _ _ _ (by simp)]; exact h.c1, World.cell?_setCell_same _ _ _ h.c2, by simp [h.f1], by simp [h.f2]⟩

set_option maxRecDepth 100000 in
set_option maxHeartbeats 2000000 in
theorem rread9_any (m : Bool) (b : Nat) (s : ByteArray) (pos : Nat) (w : World) (h : Rd w b s pos) :
    Calls Tryd.prog 24 #[.pointer (some ⟨b, 0, none⟩), .bool m] w fun e w' => ∃ sv, e = .returned (.tuple #[sv, .int .i64 (readI m s pos).2.1]) ∧ HoldsM w' sv (readI m s pos).1 ∧ Rd w' b s (readI m s pos).2.2 ∧ Only [b] w w' ∧ FreshM w sv (readI m s pos).1 := by
  have H := hid h
  have hlt := h.lt
  have hle := h.le
  have CP := hid (rcopy_any b s pos w h)
  obtain ⟨T, hT⟩ : ∃ T, T = readF m s 66 pos := ⟨_, rfl⟩
  have e : readI m s pos = (T.1, T.2.1, if T.2.1 = 0 then T.2.2 else pos) := by rw [hT]; rfl
  rw [e]
  have TT := hid hT
  clear hT e h
  go_enter Tryd.func24, Tryd.ntmps24
  go_wp2_with fail
  refine CP.out.mono ?_
  rintro e w1 ⟨rfl, hR1, hO1⟩
  obtain ⟨c, hc⟩ : ∃ c, c = w.heap.size := ⟨_, rfl⟩
  rw [← hc] at hR1 ⊢
  have hlc := hR1.lt
  have R1 := hid hR1
  have O1 := hid hO1
  have HC := hid hc
  have hbc : b < c := by omega
  clear hR1 hO1 hc CP
  go_wp2_with fail
  generalize hw2 : w1.alloc _ = w2
  have O2 := hid (show Only [] w1 w2 from hw2 ▸ (Only.refl [] w1).alloc _)
  obtain ⟨D, hD⟩ : ∃ D, D = w1.heap.size := ⟨_, rfl⟩
  have S2 := hid (show Sc w2 D c 0 from by rw [← hw2, hD]; exact ⟨by simp, by simp, by simp⟩)
  have R2 := hid (R1.out.only O2.out (by simp))
  have hDl : D < w2.heap.size := S2.out.lt
  have hcl : c < w2.heap.size := R2.out.lt
  have hDc : D ≠ c := by omega
  have hbD : b ≠ D := by omega
  have hbc' : b ≠ c := by omega
  have OW := hid (O1.out.trans O2.out)
  have RB := hid (H.out.only OW.out (by simp))
  have HC1 := hid (show w.heap.size ≤ c ∧ w.heap.size ≤ D by have := HC.out; omega)
  rw [← hD]
  clear hw2 hD R1 O1 O2 HC hbc hlc hlt
  go_loopg [7] 66 (fun g t wr => ∃ (q : Nat) (done : List (Int × Int × Int)), RdS w2 wr D c s q 0 t done ∧ g + done.length = 66 ∧ T = joinT done (readF m s g q))
  case atStart => exact ⟨pos, [], ⟨S2.out, R2.out, RowM.nil _, Only.refl _ _, by simp [ownOf, Value.ownBlock]⟩, rfl, by rw [joinT_readF]; exact TT.out⟩
  case round =>
    obtain ⟨q, done, hS, hk, hT⟩ := hrel
    have S := hid hS
    have K := hid hk
    have TK := hid hT
    have dl : done.length ≤ 66 := by omega
    have hql := hS.rd.le
    have UE := hid (fun w h hr => sue_any D c s q 0 w h hr hDc)
    have EN := hid (fun w => rend9_any m w)
    obtain ⟨v, e1, q1, hU⟩ : ∃ v e1 q1, ueS s 0 q = (v, e1, q1) := ⟨_, _, _, rfl⟩
    rw [hU] at UE
    have HU := hid hU
    clear hS hk hT hU
    obtain ⟨S0, _, _, _, _⟩ := S.out
    go_wp2_with fail
    refine (UE.out _ S.out.sc S.out.rd).mono ?_
    rintro e w3 ⟨rfl, hS3, hR3, hO3⟩
    have S3 := hid (S.out.step hDl hcl hS3 hR3 hO3)
    obtain ⟨r0, r1, r2⟩ := hS3
    clear hR3 hO3 S S0
    by_cases hE : e1 = 0 ∧ v = (endN m : Nat)
    · obtain ⟨rfl, rfl⟩ := hE
      have E := readF_end (m := m) (s := s) (k := gk) (q := q) (step_end' HU.out rfl rfl)
      have TK := TK.out
      rw [E, joinT_join, List.append_nil] at TK
      have E2 : T = (done, 0, q1) := by rw [TK]; simp [joinT]
      obtain ⟨_, p1, _, pl, _⟩ := S3.out.rd
      have RB3 := hid (RB.out.only S3.out.only (by simp; exact ⟨hbc', hbD⟩))
      have bp := RB3.out.hp
      have bf := RB3.out.hf
      have PL := hid pl
      subst E2
      clear E TK HU UE pl
      go_wp2_with fail
      refine (EN.out _).mono ?_
      rintro e w4 ⟨rfl, rfl⟩
      clear EN
      go_wp2_with fail
      go_ret2
      refine ⟨u7, rfl, (S3.out.row.only ((Only.refl [b] _).setCell (.inl (by simp)) _) (fun g hg => ?_)).holds, RB3.out.set q1 PL.out, ?_, freshM_own fun g hg => Nat.le_trans OW.out.size (S3.out.own g hg)⟩
      · have := S3.out.own g hg
        have := RB.out.lt
        simp
        omega
      · exact ((OW.out.trans2 S3.out.only (fun x hx => .inr (by have := HC1.out; simp at hx; omega))).mono (fun _ _ h => by cases h)).trans ((Only.refl [b] _).setCell (.inl (by simp)) _)
    · have HE := hid hE
      have NE : e1 = 0 → (v == ((endN m : Nat) : Int)) = false := fun e => by rw [beq_eq_false_iff_ne]; exact fun f => hE ⟨e, f⟩
      have HS := hid (fun w => rhas_any m v w)
      have KD := hid (fun is w h => skind_any D c e1 is w h)
      obtain ⟨nn, is, hh⟩ : ∃ nn is, hasI m v = (nn, is) := ⟨_, _, rfl⟩
      have HNN := hasI_n (m := m) (op := v)
      rw [hh] at HS HNN
      have HH := hid hh
      obtain ⟨ua, uc, hu, _, _, _⟩ := S3.out.row.holds
      subst hu
      clear hh hE UE
      go_upto_region 6 with fail
      go_cut [30] (fun s30 wx => s30 = .bool false ∧ wx = w3)
      case first =>
        by_cases he : e1 = 0
        · have ne := NE he
          subst he
          clear NE
          go_wp2_with fail
          refine (EN.out _).mono ?_
          rintro e w4 ⟨rfl, rfl⟩
          go_wp2_with fail
          go_meet
          exact ⟨rfl, rfl⟩
        · go_wp2_with fail
          go_meet
          exact ⟨rfl, rfl⟩
      case rest =>
        obtain ⟨rfl, rfl⟩ := hcut
        clear NE EN
        go_wp2_with fail
        refine (HS.out _).mono ?_
        rintro e w4 ⟨rfl, rfl⟩
        clear HS
        go_wp2_with fail
        refine (KD.out is _ S3.out.sc).mono ?_
        rintro e w4 ⟨⟨vv, rfl⟩, hS4, hO4⟩
        have S4 := hid (S3.out.step hDl hcl hS4 (S3.out.rd.only hO4 (by simpa using fun h => hDc h.symm)) (hO4.mono (fun k _ h => by simp at h; simp [h])))
        obtain ⟨t0, t1, t2⟩ := hS4
        clear hO4 S3 r0 r1 r2 KD
        obtain ⟨E2, hE2⟩ : ∃ E2, E2 = kindS e1 is := ⟨_, rfl⟩
        rw [← hE2] at S4 t1
        have HE2 := hid hE2
        clear hE2
        go_upto_region 11 with fail
        go_cut [60] (fun s60 wx => s60 = .bool (decide (E2 = 0 ∧ done.length = 66)) ∧ wx = w4)
        case first =>
          by_cases he : E2 = 0
          · by_cases hf : done.length = 66
            · have hf' : (done.length : Int) = 66 := by omega
              have dd : decide (E2 = 0 ∧ done.length = 66) = true := by simp [he, hf]
              have dd := hid dd
              rw [he] at t1
              go_wp2_with fail
              go_meet
              exact ⟨by rw [dd.out], rfl⟩
            · have hf' : ((done.length : Int) == 66) = false := by rw [beq_eq_false_iff_ne]; omega
              have dd : decide (E2 = 0 ∧ done.length = 66) = false := by simp [he, hf]
              have dd := hid dd
              rw [he] at t1
              clear hf
              go_wp2_with fail
              go_meet
              exact ⟨by rw [dd.out], rfl⟩
          · have dd : decide (E2 = 0 ∧ done.length = 66) = false := by simp [he]
            have dd := hid dd
            go_wp2_with fail
            go_meet
            exact ⟨by rw [dd.out], rfl⟩
        case rest =>
          obtain ⟨rfl, rfl⟩ := hcut
          go_upto_if 60 with fail
          go_cut [] (fun wx => RdS w2 wx D c s q1 (fullS E2 (decide (done.length = 66))) (.slice ua done.length uc) done)
          case first =>
            by_cases hf : E2 = 0 ∧ done.length = 66
            · obtain ⟨f1, f2⟩ := hf
              have ff : fullS E2 (decide (done.length = 66)) = 6 := by simp [fullS, f1, f2]
              have dd : decide (E2 = 0 ∧ done.length = 66) = true := by simp [f1, f2]
              have ff := hid ff
              rw [dd]
              clear dd f1 f2
              go_wp2_with fail
              go_meet
              rw [ff.out]
              exact S4.out.step hDl hcl (S4.out.sc.set 6) (S4.out.rd.only ((Only.refl [D] _).setCell (.inl (by simp)) _) (by simpa using fun h => hDc h.symm)) (((Only.refl [D] _).setCell (.inl (by simp)) _).mono (fun k _ h => by simp at h; simp [h]))
            · have ff : fullS E2 (decide (done.length = 66)) = E2 := by
                unfold fullS
                rw [if_neg]
                simpa using hf
              have dd : decide (E2 = 0 ∧ done.length = 66) = false := by simpa using hf
              have ff := hid ff
              rw [dd]
              clear dd hf
              go_wp2_with fail
              go_meet
              rw [ff.out]
              exact S4.out
          case rest =>
            rename_i w5
            obtain ⟨E3, hE3⟩ : ∃ E3, E3 = fullS E2 (decide (done.length = 66)) := ⟨_, rfl⟩
            rw [← hE3] at hcut
            have S5 := hid hcut
            have HE3 := hid hE3
            clear hE3 hcut t0 t1 t2 S4
            go_upto_if 68 with fail
            generalize hw6 : wc.alloc _ = w6
            obtain ⟨M, hM⟩ : ∃ M, M = wc.heap.size := ⟨_, rfl⟩
            have O6 := (show Only [M] wc w6 from hw6 ▸ ((Only.refl [] wc).alloc _).mono (by simp))
            have M6 := hid (show Mc w6 M (v % 256, 0, 0) from by rw [← hw6, hM]; exact ⟨by simp, by simp, by simp, by simp, by simp⟩)
            have hMg : ∀ g, g ∈ ownOf (.slice ua done.length uc) → g < M := fun g hg => by rw [hM]; exact S5.out.row.lt g hg
            have hMw : w2.heap.size ≤ M := by rw [hM]; exact S5.out.only.size
            have hMc : c < M := by omega
            have hMD : D < M := by omega
            have hMo : M ∉ ownOf (.slice ua done.length uc) := fun h => Nat.lt_irrefl _ (hMg M h)
            have S6 := hid (S5.out.other O6 hMw hMc hMD hMo)
            rw [← hM]
            clear hw6 hM O6 S5
            obtain ⟨a, ha⟩ : ∃ a, a = optS s (decide (0 < nn)) E3 q1 := ⟨_, rfl⟩
            have HA := hid ha
            go_cut [] (fun wx => RdS w2 wx D c s a.2.2 a.2.1 (.slice ua done.length uc) done ∧ Mc wx M (v % 256, a.1, 0))
            case first =>
              have HU := hid (fun w h hr => sue_any D c s q1 E3 w h hr hDc)
              by_cases hn : 0 < nn
              · have ea : a = ueS s E3 q1 := by rw [ha]; simp [optS, hn]
                rw [← ea] at HU
                clear ha ea
                go_wp2_with fail
                refine (HU.out _ S6.out.sc S6.out.rd).mono ?_
                rintro e w7 ⟨rfl, hS7, hR7, hO7⟩
                have S7 := hid (S6.out.step hDl hcl hS7 hR7 hO7)
                have M7 := hid (M6.out.only hO7 (by simp; omega))
                have k1 := M7.out.c1
                have k2 := M7.out.f1
                clear hS7 hR7 hO7
                go_wp2_with fail
                go_meet
                exact ⟨S7.out.other ((Only.refl [M] _).setCell (.inl (by simp)) _) hMw hMc hMD hMo, M7.out.set1 _⟩
              · have ea : a = (0, E3, q1) := by rw [ha]; simp [optS, hn]
                have EA := hid ea
                clear ha ea
                go_wp2_with fail
                go_meet
                rw [EA.out]
                exact ⟨S6.out, M6.out⟩
            case rest =>
              obtain ⟨hS7, hM7⟩ := hcut
              have S7 := hid hS7
              have M7 := hid hM7
              clear hS7 hM7 S6 M6 ha
              go_upto_if 73 with fail
              obtain ⟨b9, hb⟩ : ∃ b9, b9 = optS s (decide (1 < nn)) a.2.1 a.2.2 := ⟨_, rfl⟩
              have HB := hid hb
              go_cut [] (fun wx => RdS w2 wx D c s b9.2.2 b9.2.1 (.slice ua done.length uc) done ∧ Mc wx M (v % 256, a.1, b9.1))
              case first =>
                have HU := hid (fun w h hr => sue_any D c s a.2.2 a.2.1 w h hr hDc)
                by_cases hn : 1 < nn
                · have ea : b9 = ueS s a.2.1 a.2.2 := by rw [hb]; simp [optS, hn]
                  rw [← ea] at HU
                  clear hb ea
                  go_wp2_with fail
                  refine (HU.out _ S7.out.sc S7.out.rd).mono ?_
                  rintro e w8 ⟨rfl, hS8, hR8, hO8⟩
                  have S8 := hid (S7.out.step hDl hcl hS8 hR8 hO8)
                  have M8 := hid (M7.out.only hO8 (by simp; omega))
                  have k1 := M8.out.c2
                  have k2 := M8.out.f2
                  clear hS8 hR8 hO8
                  go_wp2_with fail
                  go_meet
                  exact ⟨S8.out.other ((Only.refl [M] _).setCell (.inl (by simp)) _) hMw hMc hMD hMo, M8.out.set2 _⟩
                · have ea : b9 = (0, a.2.1, a.2.2) := by rw [hb]; simp [optS, hn]
                  have EA := hid ea
                  clear hb ea
                  go_wp2_with fail
                  go_meet
                  rw [EA.out]
                  exact ⟨S7.out, M7.out⟩
              case rest =>
                obtain ⟨hS8, hM8⟩ := hcut
                have S8 := hid hS8
                have M8 := hid hM8
                obtain ⟨t0, t1, t2⟩ := hS8.sc
                clear hS8 S7 M7 hb
                have hgk : decide (gk = 0) = decide (done.length = 66) := by rw [decide_eq_decide]; have := K.out; omega
                have SB := step_by (m := m) (full := decide (gk = 0)) HU.out HE.out (a := a) (b := b9) (by rw [HH.out, hgk, ← HE2.out, ← HE3.out]; exact HA.out) (by rw [HH.out]; exact HB.out)
                by_cases hE : b9.2.1 = 0
                · rw [if_neg (fun x => x hE)] at SB
                  have hg0 : gk ≠ 0 := by
                    intro h
                    rw [h] at SB
                    exact step_full SB
                  obtain ⟨k, rfl⟩ : ∃ k, gk = k + 1 := ⟨gk - 1, by omega⟩
                  have SB' : stepI m s false q = (0, some (v, a.1, b9.1), b9.2.2) := by rw [← SB]; simp
                  have TK := TK.out
                  rw [readF_more SB', joinT_join] at TK
                  have NX := hid TK
                  have hi : (hasI m v).2 = true ∧ 0 ≤ v ∧ v ≤ 6 := by
                    rcases step_back (o := some (v, a.1, b9.1)) hql SB' with ⟨f, _⟩ | ⟨x, f, _, hx, _, _⟩
                    · cases f
                    · cases f
                      obtain ⟨h1, _⟩ := errI_ok hx
                      obtain ⟨o1, o2, _⟩ := hasI_le h1
                      exact ⟨h1, o1, o2⟩
                  have hv : v % 256 = v := by omega
                  rw [hv] at M8
                  obtain ⟨x0, x1, x2, _, _⟩ := M8.out
                  rw [hE] at t1
                  have S8' : RdS w2 wc D c s b9.2.2 0 (.slice ua done.length uc) done := by have := S8.out; rw [hE] at this; exact this
                  obtain ⟨sv2, w9, hrun, hrow, honly, hown⟩ := append_mod wc (.slice ua done.length uc) done (v, a.1, b9.1) S8'.row (by omega)
                  have F := hid (⟨hrow, honly, hown⟩ : _ ∧ _ ∧ _)
                  have S9 := hid S8'
                  have KK := hid (show k + (done ++ [(v, a.1, b9.1)]).length = 66 by rw [List.length_append]; have := K.out; simp; omega)
                  dsimp only at hrun
                  clear SB SB' TK hg0 hi hv hrow honly hown S8' hE S8 M8 hgk
                  go_wp2_with (at_builtin; refine Lib.wpList_append_run _ rfl _ _ _ _ rfl _ _ rfl rfl _ _ hrun ?_)
                  go_roundg k
                  case measure => omega
                  case rel =>
                    obtain ⟨hrow, honly, hown⟩ := F.out
                    have ho : ∀ g, g ∈ ownOf (.slice ua done.length uc) → w2.heap.size ≤ g := S9.out.own
                    refine ⟨b9.2.2, done ++ [(v, a.1, b9.1)], ⟨S9.out.sc.only honly (fun h => by have := ho _ h; omega), S9.out.rd.only honly (fun h => by have := ho _ h; omega), hrow, S9.out.only.trans2 honly (fun x hx => .inr (ho x hx)), fun g hg => ?_⟩, KK.out, NX.out⟩
                    rcases hown g hg with e | e
                    · exact ho g e
                    · exact Nat.le_trans S9.out.only.size e
                · rw [if_pos hE] at SB
                  have TK := TK.out
                  rw [readF_end (k := gk) SB, joinT_join, List.append_nil] at TK
                  have ET : T = ([], b9.2.1, 0) := by rw [TK]; simp [joinT, hE]
                  subst ET
                  have HEE := hid hE
                  clear SB TK hgk
                  go_wp2_with fail
                  go_quiet (fail)
                  go_wp2_with fail
                  go_ret2
                  have OO := S8.out.only
                  exact ⟨_, rfl, holdsM_none _, (RB.out.only OO (by simp; exact ⟨hbc', hbD⟩)).drewN _, ((OW.out.trans2 OO (fun x hx => .inr (by have := HC1.out; simp at hx; omega))).mono (fun _ _ h => by cases h)).drewN _, freshM_nil _⟩
end Go.Proofs.YtdkmeldcpamnnaaDoor

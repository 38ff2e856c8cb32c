/- The laws' helpers: a valid sequence parameter set out of any numbers. -/
import Derived.Test.YtojahafmfcfpaaaGreatDoorHmB
import Derived.Test.YtojahafmfcfpaaaGreatDoorHlE
namespace Go.Proofs.YtojahafmfcfpaaaGreatDoor
open Go.RowKit
set_option linter.unusedVariables false
set_option linter.unusedSimpArgs false

/-- The three bytes that are not looked at. -/
def bytesN (n : N8) : Int × Int × Int := (IntKind.u8.wrap n.a, IntKind.u8.wrap (n.a / 256), IntKind.u8.wrap (n.a / 65536))
set_option maxRecDepth 100000 in
set_option maxHeartbeats 8000000 in
theorem valid6_any (n : N8) (w : World) : Calls Tryz.prog 84 #[nV n] w fun e w' => e = .returned (sV (validS n (bytesN n))) ∧ Only [] w w' := by
  obtain ⟨W, hW⟩ : ∃ W, W = (w.alloc (.cells (nL n).toArray 75)).alloc (.cells (sL s0).toArray 29) := ⟨_, rfl⟩
  have oW : Only [] w W := hW ▸ (((Only.refl [] w).alloc _).alloc _)
  have bN : Blk W w.heap.size 75 (nL n).toArray := hW ▸ ((Blk.new w _ _).only ((Only.refl [] _).alloc _) (by simp))
  have bR : Blk W (w.heap.size + 1) 29 (sL s0).toArray := by
    have := Blk.new (w.alloc (.cells (nL n).toArray 75)) 29 (sL s0).toArray
    rw [World.size_alloc] at this
    exact hW ▸ this
  have OW := hid oW
  have BN := hid bN
  have BR := hid bR
  have WI := widS_in n
  have MI := most_in WI
  have R := hid (show validS n (bytesN n) = ⟨IntKind.u8.wrap n.a, IntKind.u8.wrap (n.a / 256), IntKind.u8.wrap (n.a / 65536), n.b % 32, 4 + n.c % 13, 4 + n.d % 13, n.e % 17, widS n, 1 + n.g % (min 128 (8160 / widS n))⟩ from rfl)
  have WD := hid (show widS n = 1 + n.f % 128 from rfl)
  clear oW bN bR
  obtain ⟨a, b, c, d, e, f, g, h⟩ := n
  simp only [nV, nL, sL, s0] at hW ⊢
  obtain ⟨p, hp⟩ : ∃ p, p = w.heap.size := ⟨_, rfl⟩
  have PW := hid (show p = w.heap.size ∧ p + 1 < W.heap.size from ⟨hp, by rw [hp]; exact BR.out.lt⟩)
  rw [← hp] at BN BR
  dsimp only at WD R
  have m1 := Int.emod_nonneg c (show (13 : Int) ≠ 0 by omega)
  have m2 := Int.emod_lt_of_pos c (show (0 : Int) < 13 by omega)
  have m3 := Int.emod_nonneg d (show (13 : Int) ≠ 0 by omega)
  have m4 := Int.emod_lt_of_pos d (show (0 : Int) < 13 by omega)
  have m5 := Int.emod_nonneg f (show (128 : Int) ≠ 0 by omega)
  have m6 := Int.emod_lt_of_pos f (show (0 : Int) < 128 by omega)
  have w1 : IntKind.i64.wrap (4 + c % 13) = 4 + c % 13 := IntWalk.i64_in _ ⟨by omega, by omega⟩
  have w2 : IntKind.i64.wrap (4 + d % 13) = 4 + d % 13 := IntWalk.i64_in _ ⟨by omega, by omega⟩
  have w3 : IntKind.i64.wrap (1 + f % 128) = 1 + f % 128 := IntWalk.i64_in _ ⟨by omega, by omega⟩
  have XC := hid (fun w' (o : Only [] W w') => And.intro ((BN.out.only o (by simp)).cell (i := 0) (v := .int .i64 a) rfl) (And.intro ((BN.out.only o (by simp)).cell (i := 1) (v := .int .i64 b) rfl) (And.intro ((BN.out.only o (by simp)).cell (i := 2) (v := .int .i64 c) rfl) (And.intro ((BN.out.only o (by simp)).cell (i := 3) (v := .int .i64 d) rfl) (And.intro ((BN.out.only o (by simp)).cell (i := 4) (v := .int .i64 e) rfl) ((BN.out.only o (by simp)).cell (i := 5) (v := .int .i64 f) rfl))))))
  go_enter Tryz.func84, Tryz.ntmps84
  go_upto_region 1 with (fail)
  rw [← hW, ← hp]
  clear hW hp
  go_cut [3] from 3 to 33 (fun s3 wx => ∃ T, s3 = .pointer (some ⟨T, 0, none⟩) ∧ Blk wx T 29 (sL ⟨IntKind.u8.wrap a, IntKind.u8.wrap (a / 256), IntKind.u8.wrap (a / 65536), b % 32, 4 + c % 13, 4 + d % 13, e % 17, 1 + f % 128, 0⟩).toArray ∧ Only [] W wx ∧ W.heap.size ≤ T)
  case first =>
    refine wp_region_heldH (fun w' => Only [] W w') 32 (by kernel_rfl) rfl (Only.refl [] W).drew (fun hS => ?_)
    generalize W.drew = wd at *
    have Z0 := hid (Blk.new wd 29 (sL s0).toArray)
    have SA := hid (show Only [] W (wd.alloc (.cells (sL s0).toArray 29)) from hS.alloc _)
    have TW := hid (hS.size)
    simp only [sL, s0] at SA
    refine wpAnyH_read 0 (v := ?va1) rfl (by kernel_rfl) (by kernel_rfl) (by kernel_rfl) (fun _ _ _ h => h) hS (Or.inl ⟨by rfl, ?ya1⟩) ?ra1
    case ya1 =>
      intro w hSw
      obtain ⟨n0, n1, n2, n3, n4, n5⟩ := XC.out w hSw
      go_simp
      (try with_reducible rfl)
    (try simp only [Act.put, List.setIfInBounds_toArray, List.set_cons_zero, List.set_cons_succ])
    refine wpAnyH_read 1 (v := ?va2) rfl (by kernel_rfl) (by kernel_rfl) (by kernel_rfl) (fun _ _ _ h => h) hS (Or.inl ⟨by rfl, ?ya2⟩) ?ra2
    case ya2 =>
      intro w hSw
      obtain ⟨n0, n1, n2, n3, n4, n5⟩ := XC.out w hSw
      go_simp
      (try with_reducible rfl)
    (try simp only [Act.put, List.setIfInBounds_toArray, List.set_cons_zero, List.set_cons_succ])
    refine wpAnyH_read 2 (v := ?va3) rfl (by kernel_rfl) (by kernel_rfl) (by kernel_rfl) (fun _ _ _ h => h) hS (Or.inl ⟨by rfl, ?ya3⟩) ?ra3
    case ya3 =>
      intro w hSw
      obtain ⟨n0, n1, n2, n3, n4, n5⟩ := XC.out w hSw
      go_simp
      (try with_reducible rfl)
    (try simp only [Act.put, List.setIfInBounds_toArray, List.set_cons_zero, List.set_cons_succ])
    refine wpAnyH_read 3 (v := ?va4) rfl (by kernel_rfl) (by kernel_rfl) (by kernel_rfl) (fun _ _ _ h => h) hS (Or.inl ⟨by rfl, ?ya4⟩) ?ra4
    case ya4 =>
      intro w hSw
      obtain ⟨n0, n1, n2, n3, n4, n5⟩ := XC.out w hSw
      go_simp
      (try with_reducible rfl)
    (try simp only [Act.put, List.setIfInBounds_toArray, List.set_cons_zero, List.set_cons_succ])
    refine wpAnyH_read 4 (v := ?va5) rfl (by kernel_rfl) (by kernel_rfl) (by kernel_rfl) (fun _ _ _ h => h) hS (Or.inl ⟨by rfl, ?ya5⟩) ?ra5
    case ya5 =>
      intro w hSw
      obtain ⟨n0, n1, n2, n3, n4, n5⟩ := XC.out w hSw
      go_simp
      (try with_reducible rfl)
    (try simp only [Act.put, List.setIfInBounds_toArray, List.set_cons_zero, List.set_cons_succ])
    refine wpAnyH_read 5 (v := ?va6) rfl (by kernel_rfl) (by kernel_rfl) (by kernel_rfl) (fun _ _ _ h => h) hS (Or.inl ⟨by rfl, ?ya6⟩) ?ra6
    case ya6 =>
      intro w hSw
      obtain ⟨n0, n1, n2, n3, n4, n5⟩ := XC.out w hSw
      go_simp
      (try with_reducible rfl)
    (try simp only [Act.put, List.setIfInBounds_toArray, List.set_cons_zero, List.set_cons_succ])
    refine wpAnyH_read 6 (v := ?va7) rfl (by kernel_rfl) (by kernel_rfl) (by kernel_rfl) (fun _ _ _ h => h) hS (Or.inl ⟨by rfl, ?ya7⟩) ?ra7
    case ya7 =>
      intro w hSw
      obtain ⟨n0, n1, n2, n3, n4, n5⟩ := XC.out w hSw
      go_simp
      (try with_reducible rfl)
    (try simp only [Act.put, List.setIfInBounds_toArray, List.set_cons_zero, List.set_cons_succ])
    refine wpAnyH_read 7 (v := ?va8) rfl (by kernel_rfl) (by kernel_rfl) (by kernel_rfl) (fun _ _ _ h => h) hS (Or.inl ⟨by rfl, ?ya8⟩) ?ra8
    case ya8 =>
      intro w hSw
      obtain ⟨n0, n1, n2, n3, n4, n5⟩ := XC.out w hSw
      go_simp
      (try with_reducible rfl)
    (try simp only [Act.put, List.setIfInBounds_toArray, List.set_cons_zero, List.set_cons_succ])
    refine wpAnyH_read 8 (v := ?va9) rfl (by kernel_rfl) (by kernel_rfl) (by kernel_rfl) (fun _ _ _ h => h) hS (Or.inl ⟨by rfl, ?ya9⟩) ?ra9
    case ya9 =>
      intro w hSw
      obtain ⟨n0, n1, n2, n3, n4, n5⟩ := XC.out w hSw
      go_simp
      (try with_reducible rfl)
    (try simp only [Act.put, List.setIfInBounds_toArray, List.set_cons_zero, List.set_cons_succ])
    refine wpAnyH_read 9 (v := ?va10) rfl (by kernel_rfl) (by kernel_rfl) (by kernel_rfl) (fun _ _ _ h => h) hS (Or.inl ⟨by rfl, ?ya10⟩) ?ra10
    case ya10 =>
      intro w hSw
      obtain ⟨n0, n1, n2, n3, n4, n5⟩ := XC.out w hSw
      go_simp
      (try with_reducible rfl)
    (try simp only [Act.put, List.setIfInBounds_toArray, List.set_cons_zero, List.set_cons_succ])
    refine wpAnyH_read 10 (v := ?va11) rfl (by kernel_rfl) (by kernel_rfl) (by kernel_rfl) (fun _ _ _ h => h) hS (Or.inl ⟨by rfl, ?ya11⟩) ?ra11
    case ya11 =>
      intro w hSw
      obtain ⟨n0, n1, n2, n3, n4, n5⟩ := XC.out w hSw
      go_simp
      (try with_reducible rfl)
    (try simp only [Act.put, List.setIfInBounds_toArray, List.set_cons_zero, List.set_cons_succ])
    refine wpAnyH_read 11 (v := ?va12) rfl (by kernel_rfl) (by kernel_rfl) (by kernel_rfl) (fun _ _ _ h => h) hS (Or.inl ⟨by rfl, ?ya12⟩) ?ra12
    case ya12 =>
      intro w hSw
      obtain ⟨n0, n1, n2, n3, n4, n5⟩ := XC.out w hSw
      go_simp
      (try with_reducible rfl)
    (try simp only [Act.put, List.setIfInBounds_toArray, List.set_cons_zero, List.set_cons_succ])
    refine wpAnyH_read 12 (v := ?va13) rfl (by kernel_rfl) (by kernel_rfl) (by kernel_rfl) (fun _ _ _ h => h) hS (Or.inl ⟨by rfl, ?ya13⟩) ?ra13
    case ya13 =>
      intro w hSw
      obtain ⟨n0, n1, n2, n3, n4, n5⟩ := XC.out w hSw
      go_simp
      (try with_reducible rfl)
    (try simp only [Act.put, List.setIfInBounds_toArray, List.set_cons_zero, List.set_cons_succ])
    refine wpAnyH_read 14 (v := ?va14) rfl (by kernel_rfl) (by kernel_rfl) (by kernel_rfl) (fun _ _ _ h => h) hS (Or.inl ⟨by rfl, ?ya14⟩) ?ra14
    case ya14 =>
      intro w hSw
      obtain ⟨n0, n1, n2, n3, n4, n5⟩ := XC.out w hSw
      go_simp
      (try with_reducible rfl)
    (try simp only [Act.put, List.setIfInBounds_toArray, List.set_cons_zero, List.set_cons_succ])
    refine wpAnyH_read 15 (v := ?va15) rfl (by kernel_rfl) (by kernel_rfl) (by kernel_rfl) (fun _ _ _ h => h) hS (Or.inl ⟨by rfl, ?ya15⟩) ?ra15
    case ya15 =>
      intro w hSw
      obtain ⟨n0, n1, n2, n3, n4, n5⟩ := XC.out w hSw
      go_simp
      (try with_reducible rfl)
    (try simp only [Act.put, List.setIfInBounds_toArray, List.set_cons_zero, List.set_cons_succ])
    refine wpAnyH_read 18 (v := ?va16) rfl (by kernel_rfl) (by kernel_rfl) (by kernel_rfl) (fun _ _ _ h => h) hS (Or.inl ⟨by rfl, ?ya16⟩) ?ra16
    case ya16 =>
      intro w hSw
      obtain ⟨n0, n1, n2, n3, n4, n5⟩ := XC.out w hSw
      go_simp
      (try with_reducible rfl)
    (try simp only [Act.put, List.setIfInBounds_toArray, List.set_cons_zero, List.set_cons_succ])
    refine wpAnyH_read 19 (v := ?va17) rfl (by kernel_rfl) (by kernel_rfl) (by kernel_rfl) (fun _ _ _ h => h) hS (Or.inl ⟨by rfl, ?ya17⟩) ?ra17
    case ya17 =>
      intro w hSw
      obtain ⟨n0, n1, n2, n3, n4, n5⟩ := XC.out w hSw
      go_simp
      (try with_reducible rfl)
    (try simp only [Act.put, List.setIfInBounds_toArray, List.set_cons_zero, List.set_cons_succ])
    refine wpAnyH_read 22 (v := ?va18) rfl (by kernel_rfl) (by kernel_rfl) (by kernel_rfl) (fun _ _ _ h => h) hS (Or.inl ⟨by rfl, ?ya18⟩) ?ra18
    case ya18 =>
      intro w hSw
      obtain ⟨n0, n1, n2, n3, n4, n5⟩ := XC.out w hSw
      go_simp
      (try with_reducible rfl)
    (try simp only [Act.put, List.setIfInBounds_toArray, List.set_cons_zero, List.set_cons_succ])
    refine wpAnyH_read 23 (v := ?va19) rfl (by kernel_rfl) (by kernel_rfl) (by kernel_rfl) (fun _ _ _ h => h) hS (Or.inl ⟨by rfl, ?ya19⟩) ?ra19
    case ya19 =>
      intro w hSw
      obtain ⟨n0, n1, n2, n3, n4, n5⟩ := XC.out w hSw
      go_simp
      (try with_reducible rfl)
    (try simp only [Act.put, List.setIfInBounds_toArray, List.set_cons_zero, List.set_cons_succ])
    refine wpAnyH_read 25 (v := ?va20) rfl (by kernel_rfl) (by kernel_rfl) (by kernel_rfl) (fun _ _ _ h => h) hS (Or.inl ⟨by rfl, ?ya20⟩) ?ra20
    case ya20 =>
      intro w hSw
      obtain ⟨n0, n1, n2, n3, n4, n5⟩ := XC.out w hSw
      go_simp
      (try with_reducible rfl)
    (try simp only [Act.put, List.setIfInBounds_toArray, List.set_cons_zero, List.set_cons_succ])
    refine wpAnyH_read 26 (v := ?va21) rfl (by kernel_rfl) (by kernel_rfl) (by kernel_rfl) (fun _ _ _ h => h) hS (Or.inl ⟨by rfl, ?ya21⟩) ?ra21
    case ya21 =>
      intro w hSw
      obtain ⟨n0, n1, n2, n3, n4, n5⟩ := XC.out w hSw
      go_simp
      (try with_reducible rfl)
    (try simp only [Act.put, List.setIfInBounds_toArray, List.set_cons_zero, List.set_cons_succ])
    refine wpAnyH_all (rs := [13, 30]) (by kernel_rfl) (by simp) (fun i hi => ?_)
    simp only [List.mem_cons, List.not_mem_nil, or_false] at hi
    rcases hi with rfl | rfl
    · skip
      refine wpOp_step (o := _) rfl (fun J hJ => ?_)
      try rw [if_pos (by rfl)]
      go_simp
      refine (mod6_any b 32 (by omega) (by omega) _).mono ?_
      rintro _ w9 ⟨rfl, hw9⟩
      rw [hw9]
      clear hw9 w9
      refine hJ _ _ ⟨hS, ?_⟩
      clear hJ J
      (try simp only [Act.put, List.setIfInBounds_toArray, List.set_cons_zero, List.set_cons_succ])
      refine wpAnyH_all (rs := [16, 30]) (by kernel_rfl) (by simp) (fun i hi => ?_)
      simp only [List.mem_cons, List.not_mem_nil, or_false] at hi
      rcases hi with rfl | rfl
      · skip
        refine wpOp_step (o := _) rfl (fun J hJ => ?_)
        try rw [if_pos (by rfl)]
        go_simp
        refine (mod6_any c 13 (by omega) (by omega) _).mono ?_
        rintro _ w9 ⟨rfl, hw9⟩
        rw [hw9]
        clear hw9 w9
        refine hJ _ _ ⟨hS, ?_⟩
        clear hJ J
        (try simp only [Act.put, List.setIfInBounds_toArray, List.set_cons_zero, List.set_cons_succ])
        refine wpAnyH_read 17 (v := ?va22) rfl (by kernel_rfl) (by kernel_rfl) (by kernel_rfl) (fun _ _ _ h => h) hS (Or.inl ⟨by rfl, ?ya22⟩) ?ra22
        case ya22 =>
          intro w hSw
          obtain ⟨n0, n1, n2, n3, n4, n5⟩ := XC.out w hSw
          go_simp
          (try with_reducible rfl)
        (try simp only [Act.put, List.setIfInBounds_toArray, List.set_cons_zero, List.set_cons_succ])
        refine wpAnyH_all (rs := [20, 30]) (by kernel_rfl) (by simp) (fun i hi => ?_)
        simp only [List.mem_cons, List.not_mem_nil, or_false] at hi
        rcases hi with rfl | rfl
        · skip
          refine wpOp_step (o := _) rfl (fun J hJ => ?_)
          try rw [if_pos (by rfl)]
          go_simp
          refine (mod6_any d 13 (by omega) (by omega) _).mono ?_
          rintro _ w9 ⟨rfl, hw9⟩
          rw [hw9]
          clear hw9 w9
          refine hJ _ _ ⟨hS, ?_⟩
          clear hJ J
          (try simp only [Act.put, List.setIfInBounds_toArray, List.set_cons_zero, List.set_cons_succ])
          refine wpAnyH_read 21 (v := ?va23) rfl (by kernel_rfl) (by kernel_rfl) (by kernel_rfl) (fun _ _ _ h => h) hS (Or.inl ⟨by rfl, ?ya23⟩) ?ra23
          case ya23 =>
            intro w hSw
            obtain ⟨n0, n1, n2, n3, n4, n5⟩ := XC.out w hSw
            go_simp
            (try with_reducible rfl)
          (try simp only [Act.put, List.setIfInBounds_toArray, List.set_cons_zero, List.set_cons_succ])
          refine wpAnyH_all (rs := [24, 30]) (by kernel_rfl) (by simp) (fun i hi => ?_)
          simp only [List.mem_cons, List.not_mem_nil, or_false] at hi
          rcases hi with rfl | rfl
          · skip
            refine wpOp_step (o := _) rfl (fun J hJ => ?_)
            try rw [if_pos (by rfl)]
            go_simp
            refine (mod6_any e 17 (by omega) (by omega) _).mono ?_
            rintro _ w9 ⟨rfl, hw9⟩
            rw [hw9]
            clear hw9 w9
            refine hJ _ _ ⟨hS, ?_⟩
            clear hJ J
            (try simp only [Act.put, List.setIfInBounds_toArray, List.set_cons_zero, List.set_cons_succ])
            refine wpAnyH_all (rs := [27, 30]) (by kernel_rfl) (by simp) (fun i hi => ?_)
            simp only [List.mem_cons, List.not_mem_nil, or_false] at hi
            rcases hi with rfl | rfl
            · skip
              refine wpOp_step (o := _) rfl (fun J hJ => ?_)
              try rw [if_pos (by rfl)]
              go_simp
              refine (mod6_any f 128 (by omega) (by omega) _).mono ?_
              rintro _ w9 ⟨rfl, hw9⟩
              rw [hw9]
              clear hw9 w9
              refine hJ _ _ ⟨hS, ?_⟩
              clear hJ J
              (try simp only [Act.put, List.setIfInBounds_toArray, List.set_cons_zero, List.set_cons_succ])
              refine wpAnyH_read 28 (v := ?va24) rfl (by kernel_rfl) (by kernel_rfl) (by kernel_rfl) (fun _ _ _ h => h) hS (Or.inl ⟨by rfl, ?ya24⟩) ?ra24
              case ya24 =>
                intro w hSw
                obtain ⟨n0, n1, n2, n3, n4, n5⟩ := XC.out w hSw
                go_simp
                (try with_reducible rfl)
              (try simp only [Act.put, List.setIfInBounds_toArray, List.set_cons_zero, List.set_cons_succ])
              refine wpAnyH_read 29 (v := ?va25) rfl (by kernel_rfl) (by kernel_rfl) (by kernel_rfl) (fun _ _ _ h => h) hS (Or.inl ⟨by rfl, ?ya25⟩) ?ra25
              case ya25 =>
                intro w hSw
                obtain ⟨n0, n1, n2, n3, n4, n5⟩ := XC.out w hSw
                go_simp
                (try with_reducible rfl)
              (try simp only [Act.put, List.setIfInBounds_toArray, List.set_cons_zero, List.set_cons_succ])
              refine wpAnyH_all (rs := [30]) (by kernel_rfl) (by simp) (fun i hi => ?_)
              simp only [List.mem_cons, List.not_mem_nil, or_false] at hi
              subst hi
              refine wpOp_step (o := _) rfl (fun J hJ => ?_)
              try rw [if_pos (by rfl)]
              go_simp
              refine hJ _ _ ⟨SA.out, ?_⟩
              clear hJ J
              (try simp only [Act.put, List.setIfInBounds_toArray, List.set_cons_zero, List.set_cons_succ])
              refine wpAnyH_all (rs := [31]) (by kernel_rfl) (by simp) (fun i hi => ?_)
              simp only [List.mem_cons, List.not_mem_nil, or_false] at hi
              subst hi
              refine wpOp_step (o := _) rfl (fun J hJ => ?_)
              rw [if_pos (by rfl)]
              refine wp_store_op 29 _ _ rfl wd.heap.size _ _ (sL ⟨IntKind.u8.wrap a, IntKind.u8.wrap (a / 256), IntKind.u8.wrap (a / 65536), b % 32, 4 + c % 13, 4 + d % 13, e % 17, 1 + f % 128, 0⟩) rfl rfl info_sps Z0.out (by simp [sL]) (one_sL _) ?_
              intro v8 c8 p8
              have s8 : Only [] W v8 := SA.out.trans2 p8 (fun y hy => .inr (by have := TW.out; simp at hy; omega))
              refine hJ _ _ ⟨s8, ?_⟩
              clear hJ J
              (try simp only [Act.put, List.setIfInBounds_toArray, List.set_cons_zero, List.set_cons_succ])
              refine wpAnyH_done (by kernel_rfl) ?_ _
              go_wp2_with fail
              go_meet
              exact ⟨_, rfl, c8, s8, TW.out⟩
            · skip
              refine wpOp_step (o := _) rfl (fun J hJ => ?_)
              try rw [if_pos (by rfl)]
              go_simp
              refine hJ _ _ ⟨SA.out, ?_⟩
              clear hJ J
              (try simp only [Act.put, List.setIfInBounds_toArray, List.set_cons_zero, List.set_cons_succ])
              refine wpAnyH_all (rs := [27]) (by kernel_rfl) (by simp) (fun i hi => ?_)
              simp only [List.mem_cons, List.not_mem_nil, or_false] at hi
              subst hi
              refine wpOp_step (o := _) rfl (fun J hJ => ?_)
              try rw [if_pos (by rfl)]
              go_simp
              refine (mod6_any f 128 (by omega) (by omega) _).mono ?_
              rintro _ w9 ⟨rfl, hw9⟩
              rw [hw9]
              clear hw9 w9
              refine hJ _ _ ⟨SA.out, ?_⟩
              clear hJ J
              (try simp only [Act.put, List.setIfInBounds_toArray, List.set_cons_zero, List.set_cons_succ])
              refine wpAnyH_read 28 (v := ?va26) rfl (by kernel_rfl) (by kernel_rfl) (by kernel_rfl) (fun _ _ _ h => h) SA.out (Or.inl ⟨by rfl, ?ya26⟩) ?ra26
              case ya26 =>
                intro w hSw
                obtain ⟨n0, n1, n2, n3, n4, n5⟩ := XC.out w hSw
                go_simp
                (try with_reducible rfl)
              (try simp only [Act.put, List.setIfInBounds_toArray, List.set_cons_zero, List.set_cons_succ])
              refine wpAnyH_read 29 (v := ?va27) rfl (by kernel_rfl) (by kernel_rfl) (by kernel_rfl) (fun _ _ _ h => h) SA.out (Or.inl ⟨by rfl, ?ya27⟩) ?ra27
              case ya27 =>
                intro w hSw
                obtain ⟨n0, n1, n2, n3, n4, n5⟩ := XC.out w hSw
                go_simp
                (try with_reducible rfl)
              (try simp only [Act.put, List.setIfInBounds_toArray, List.set_cons_zero, List.set_cons_succ])
              refine wpAnyH_all (rs := [31]) (by kernel_rfl) (by simp) (fun i hi => ?_)
              simp only [List.mem_cons, List.not_mem_nil, or_false] at hi
              subst hi
              refine wpOp_step (o := _) rfl (fun J hJ => ?_)
              rw [if_pos (by rfl)]
              refine wp_store_op 29 _ _ rfl wd.heap.size _ _ (sL ⟨IntKind.u8.wrap a, IntKind.u8.wrap (a / 256), IntKind.u8.wrap (a / 65536), b % 32, 4 + c % 13, 4 + d % 13, e % 17, 1 + f % 128, 0⟩) rfl rfl info_sps Z0.out (by simp [sL]) (one_sL _) ?_
              intro v8 c8 p8
              have s8 : Only [] W v8 := SA.out.trans2 p8 (fun y hy => .inr (by have := TW.out; simp at hy; omega))
              refine hJ _ _ ⟨s8, ?_⟩
              clear hJ J
              (try simp only [Act.put, List.setIfInBounds_toArray, List.set_cons_zero, List.set_cons_succ])
              refine wpAnyH_done (by kernel_rfl) ?_ _
              go_wp2_with fail
              go_meet
              exact ⟨_, rfl, c8, s8, TW.out⟩
          · skip
            refine wpOp_step (o := _) rfl (fun J hJ => ?_)
            try rw [if_pos (by rfl)]
            go_simp
            refine hJ _ _ ⟨SA.out, ?_⟩
            clear hJ J
            (try simp only [Act.put, List.setIfInBounds_toArray, List.set_cons_zero, List.set_cons_succ])
            refine wpAnyH_all (rs := [24]) (by kernel_rfl) (by simp) (fun i hi => ?_)
            simp only [List.mem_cons, List.not_mem_nil, or_false] at hi
            subst hi
            refine wpOp_step (o := _) rfl (fun J hJ => ?_)
            try rw [if_pos (by rfl)]
            go_simp
            refine (mod6_any e 17 (by omega) (by omega) _).mono ?_
            rintro _ w9 ⟨rfl, hw9⟩
            rw [hw9]
            clear hw9 w9
            refine hJ _ _ ⟨SA.out, ?_⟩
            clear hJ J
            (try simp only [Act.put, List.setIfInBounds_toArray, List.set_cons_zero, List.set_cons_succ])
            refine wpAnyH_all (rs := [27]) (by kernel_rfl) (by simp) (fun i hi => ?_)
            simp only [List.mem_cons, List.not_mem_nil, or_false] at hi
            subst hi
            refine wpOp_step (o := _) rfl (fun J hJ => ?_)
            try rw [if_pos (by rfl)]
            go_simp
            refine (mod6_any f 128 (by omega) (by omega) _).mono ?_
            rintro _ w9 ⟨rfl, hw9⟩
            rw [hw9]
            clear hw9 w9
            refine hJ _ _ ⟨SA.out, ?_⟩
            clear hJ J
            (try simp only [Act.put, List.setIfInBounds_toArray, List.set_cons_zero, List.set_cons_succ])
            refine wpAnyH_read 28 (v := ?va28) rfl (by kernel_rfl) (by kernel_rfl) (by kernel_rfl) (fun _ _ _ h => h) SA.out (Or.inl ⟨by rfl, ?ya28⟩) ?ra28
            case ya28 =>
              intro w hSw
              obtain ⟨n0, n1, n2, n3, n4, n5⟩ := XC.out w hSw
              go_simp
              (try with_reducible rfl)
            (try simp only [Act.put, List.setIfInBounds_toArray, List.set_cons_zero, List.set_cons_succ])
            refine wpAnyH_read 29 (v := ?va29) rfl (by kernel_rfl) (by kernel_rfl) (by kernel_rfl) (fun _ _ _ h => h) SA.out (Or.inl ⟨by rfl, ?ya29⟩) ?ra29
            case ya29 =>
              intro w hSw
              obtain ⟨n0, n1, n2, n3, n4, n5⟩ := XC.out w hSw
              go_simp
              (try with_reducible rfl)
            (try simp only [Act.put, List.setIfInBounds_toArray, List.set_cons_zero, List.set_cons_succ])
            refine wpAnyH_all (rs := [31]) (by kernel_rfl) (by simp) (fun i hi => ?_)
            simp only [List.mem_cons, List.not_mem_nil, or_false] at hi
            subst hi
            refine wpOp_step (o := _) rfl (fun J hJ => ?_)
            rw [if_pos (by rfl)]
            refine wp_store_op 29 _ _ rfl wd.heap.size _ _ (sL ⟨IntKind.u8.wrap a, IntKind.u8.wrap (a / 256), IntKind.u8.wrap (a / 65536), b % 32, 4 + c % 13, 4 + d % 13, e % 17, 1 + f % 128, 0⟩) rfl rfl info_sps Z0.out (by simp [sL]) (one_sL _) ?_
            intro v8 c8 p8
            have s8 : Only [] W v8 := SA.out.trans2 p8 (fun y hy => .inr (by have := TW.out; simp at hy; omega))
            refine hJ _ _ ⟨s8, ?_⟩
            clear hJ J
            (try simp only [Act.put, List.setIfInBounds_toArray, List.set_cons_zero, List.set_cons_succ])
            refine wpAnyH_done (by kernel_rfl) ?_ _
            go_wp2_with fail
            go_meet
            exact ⟨_, rfl, c8, s8, TW.out⟩
        · skip
          refine wpOp_step (o := _) rfl (fun J hJ => ?_)
          try rw [if_pos (by rfl)]
          go_simp
          refine hJ _ _ ⟨SA.out, ?_⟩
          clear hJ J
          (try simp only [Act.put, List.setIfInBounds_toArray, List.set_cons_zero, List.set_cons_succ])
          refine wpAnyH_all (rs := [20]) (by kernel_rfl) (by simp) (fun i hi => ?_)
          simp only [List.mem_cons, List.not_mem_nil, or_false] at hi
          subst hi
          refine wpOp_step (o := _) rfl (fun J hJ => ?_)
          try rw [if_pos (by rfl)]
          go_simp
          refine (mod6_any d 13 (by omega) (by omega) _).mono ?_
          rintro _ w9 ⟨rfl, hw9⟩
          rw [hw9]
          clear hw9 w9
          refine hJ _ _ ⟨SA.out, ?_⟩
          clear hJ J
          (try simp only [Act.put, List.setIfInBounds_toArray, List.set_cons_zero, List.set_cons_succ])
          refine wpAnyH_read 21 (v := ?va30) rfl (by kernel_rfl) (by kernel_rfl) (by kernel_rfl) (fun _ _ _ h => h) SA.out (Or.inl ⟨by rfl, ?ya30⟩) ?ra30
          case ya30 =>
            intro w hSw
            obtain ⟨n0, n1, n2, n3, n4, n5⟩ := XC.out w hSw
            go_simp
            (try with_reducible rfl)
          (try simp only [Act.put, List.setIfInBounds_toArray, List.set_cons_zero, List.set_cons_succ])
          refine wpAnyH_all (rs := [24]) (by kernel_rfl) (by simp) (fun i hi => ?_)
          simp only [List.mem_cons, List.not_mem_nil, or_false] at hi
          subst hi
          refine wpOp_step (o := _) rfl (fun J hJ => ?_)
          try rw [if_pos (by rfl)]
          go_simp
          refine (mod6_any e 17 (by omega) (by omega) _).mono ?_
          rintro _ w9 ⟨rfl, hw9⟩
          rw [hw9]
          clear hw9 w9
          refine hJ _ _ ⟨SA.out, ?_⟩
          clear hJ J
          (try simp only [Act.put, List.setIfInBounds_toArray, List.set_cons_zero, List.set_cons_succ])
          refine wpAnyH_all (rs := [27]) (by kernel_rfl) (by simp) (fun i hi => ?_)
          simp only [List.mem_cons, List.not_mem_nil, or_false] at hi
          subst hi
          refine wpOp_step (o := _) rfl (fun J hJ => ?_)
          try rw [if_pos (by rfl)]
          go_simp
          refine (mod6_any f 128 (by omega) (by omega) _).mono ?_
          rintro _ w9 ⟨rfl, hw9⟩
          rw [hw9]
          clear hw9 w9
          refine hJ _ _ ⟨SA.out, ?_⟩
          clear hJ J
          (try simp only [Act.put, List.setIfInBounds_toArray, List.set_cons_zero, List.set_cons_succ])
          refine wpAnyH_read 28 (v := ?va31) rfl (by kernel_rfl) (by kernel_rfl) (by kernel_rfl) (fun _ _ _ h => h) SA.out (Or.inl ⟨by rfl, ?ya31⟩) ?ra31
          case ya31 =>
            intro w hSw
            obtain ⟨n0, n1, n2, n3, n4, n5⟩ := XC.out w hSw
            go_simp
            (try with_reducible rfl)
          (try simp only [Act.put, List.setIfInBounds_toArray, List.set_cons_zero, List.set_cons_succ])
          refine wpAnyH_read 29 (v := ?va32) rfl (by kernel_rfl) (by kernel_rfl) (by kernel_rfl) (fun _ _ _ h => h) SA.out (Or.inl ⟨by rfl, ?ya32⟩) ?ra32
          case ya32 =>
            intro w hSw
            obtain ⟨n0, n1, n2, n3, n4, n5⟩ := XC.out w hSw
            go_simp
            (try with_reducible rfl)
          (try simp only [Act.put, List.setIfInBounds_toArray, List.set_cons_zero, List.set_cons_succ])
          refine wpAnyH_all (rs := [31]) (by kernel_rfl) (by simp) (fun i hi => ?_)
          simp only [List.mem_cons, List.not_mem_nil, or_false] at hi
          subst hi
          refine wpOp_step (o := _) rfl (fun J hJ => ?_)
          rw [if_pos (by rfl)]
          refine wp_store_op 29 _ _ rfl wd.heap.size _ _ (sL ⟨IntKind.u8.wrap a, IntKind.u8.wrap (a / 256), IntKind.u8.wrap (a / 65536), b % 32, 4 + c % 13, 4 + d % 13, e % 17, 1 + f % 128, 0⟩) rfl rfl info_sps Z0.out (by simp [sL]) (one_sL _) ?_
          intro v8 c8 p8
          have s8 : Only [] W v8 := SA.out.trans2 p8 (fun y hy => .inr (by have := TW.out; simp at hy; omega))
          refine hJ _ _ ⟨s8, ?_⟩
          clear hJ J
          (try simp only [Act.put, List.setIfInBounds_toArray, List.set_cons_zero, List.set_cons_succ])
          refine wpAnyH_done (by kernel_rfl) ?_ _
          go_wp2_with fail
          go_meet
          exact ⟨_, rfl, c8, s8, TW.out⟩
      · skip
        refine wpOp_step (o := _) rfl (fun J hJ => ?_)
        try rw [if_pos (by rfl)]
        go_simp
        refine hJ _ _ ⟨SA.out, ?_⟩
        clear hJ J
        (try simp only [Act.put, List.setIfInBounds_toArray, List.set_cons_zero, List.set_cons_succ])
        refine wpAnyH_all (rs := [16]) (by kernel_rfl) (by simp) (fun i hi => ?_)
        simp only [List.mem_cons, List.not_mem_nil, or_false] at hi
        subst hi
        refine wpOp_step (o := _) rfl (fun J hJ => ?_)
        try rw [if_pos (by rfl)]
        go_simp
        refine (mod6_any c 13 (by omega) (by omega) _).mono ?_
        rintro _ w9 ⟨rfl, hw9⟩
        rw [hw9]
        clear hw9 w9
        refine hJ _ _ ⟨SA.out, ?_⟩
        clear hJ J
        (try simp only [Act.put, List.setIfInBounds_toArray, List.set_cons_zero, List.set_cons_succ])
        refine wpAnyH_read 17 (v := ?va33) rfl (by kernel_rfl) (by kernel_rfl) (by kernel_rfl) (fun _ _ _ h => h) SA.out (Or.inl ⟨by rfl, ?ya33⟩) ?ra33
        case ya33 =>
          intro w hSw
          obtain ⟨n0, n1, n2, n3, n4, n5⟩ := XC.out w hSw
          go_simp
          (try with_reducible rfl)
        (try simp only [Act.put, List.setIfInBounds_toArray, List.set_cons_zero, List.set_cons_succ])
        refine wpAnyH_all (rs := [20]) (by kernel_rfl) (by simp) (fun i hi => ?_)
        simp only [List.mem_cons, List.not_mem_nil, or_false] at hi
        subst hi
        refine wpOp_step (o := _) rfl (fun J hJ => ?_)
        try rw [if_pos (by rfl)]
        go_simp
        refine (mod6_any d 13 (by omega) (by omega) _).mono ?_
        rintro _ w9 ⟨rfl, hw9⟩
        rw [hw9]
        clear hw9 w9
        refine hJ _ _ ⟨SA.out, ?_⟩
        clear hJ J
        (try simp only [Act.put, List.setIfInBounds_toArray, List.set_cons_zero, List.set_cons_succ])
        refine wpAnyH_read 21 (v := ?va34) rfl (by kernel_rfl) (by kernel_rfl) (by kernel_rfl) (fun _ _ _ h => h) SA.out (Or.inl ⟨by rfl, ?ya34⟩) ?ra34
        case ya34 =>
          intro w hSw
          obtain ⟨n0, n1, n2, n3, n4, n5⟩ := XC.out w hSw
          go_simp
          (try with_reducible rfl)
        (try simp only [Act.put, List.setIfInBounds_toArray, List.set_cons_zero, List.set_cons_succ])
        refine wpAnyH_all (rs := [24]) (by kernel_rfl) (by simp) (fun i hi => ?_)
        simp only [List.mem_cons, List.not_mem_nil, or_false] at hi
        subst hi
        refine wpOp_step (o := _) rfl (fun J hJ => ?_)
        try rw [if_pos (by rfl)]
        go_simp
        refine (mod6_any e 17 (by omega) (by omega) _).mono ?_
        rintro _ w9 ⟨rfl, hw9⟩
        rw [hw9]
        clear hw9 w9
        refine hJ _ _ ⟨SA.out, ?_⟩
        clear hJ J
        (try simp only [Act.put, List.setIfInBounds_toArray, List.set_cons_zero, List.set_cons_succ])
        refine wpAnyH_all (rs := [27]) (by kernel_rfl) (by simp) (fun i hi => ?_)
        simp only [List.mem_cons, List.not_mem_nil, or_false] at hi
        subst hi
        refine wpOp_step (o := _) rfl (fun J hJ => ?_)
        try rw [if_pos (by rfl)]
        go_simp
        refine (mod6_any f 128 (by omega) (by omega) _).mono ?_
        rintro _ w9 ⟨rfl, hw9⟩
        rw [hw9]
        clear hw9 w9
        refine hJ _ _ ⟨SA.out, ?_⟩
        clear hJ J
        (try simp only [Act.put, List.setIfInBounds_toArray, List.set_cons_zero, List.set_cons_succ])
        refine wpAnyH_read 28 (v := ?va35) rfl (by kernel_rfl) (by kernel_rfl) (by kernel_rfl) (fun _ _ _ h => h) SA.out (Or.inl ⟨by rfl, ?ya35⟩) ?ra35
        case ya35 =>
          intro w hSw
          obtain ⟨n0, n1, n2, n3, n4, n5⟩ := XC.out w hSw
          go_simp
          (try with_reducible rfl)
        (try simp only [Act.put, List.setIfInBounds_toArray, List.set_cons_zero, List.set_cons_succ])
        refine wpAnyH_read 29 (v := ?va36) rfl (by kernel_rfl) (by kernel_rfl) (by kernel_rfl) (fun _ _ _ h => h) SA.out (Or.inl ⟨by rfl, ?ya36⟩) ?ra36
        case ya36 =>
          intro w hSw
          obtain ⟨n0, n1, n2, n3, n4, n5⟩ := XC.out w hSw
          go_simp
          (try with_reducible rfl)
        (try simp only [Act.put, List.setIfInBounds_toArray, List.set_cons_zero, List.set_cons_succ])
        refine wpAnyH_all (rs := [31]) (by kernel_rfl) (by simp) (fun i hi => ?_)
        simp only [List.mem_cons, List.not_mem_nil, or_false] at hi
        subst hi
        refine wpOp_step (o := _) rfl (fun J hJ => ?_)
        rw [if_pos (by rfl)]
        refine wp_store_op 29 _ _ rfl wd.heap.size _ _ (sL ⟨IntKind.u8.wrap a, IntKind.u8.wrap (a / 256), IntKind.u8.wrap (a / 65536), b % 32, 4 + c % 13, 4 + d % 13, e % 17, 1 + f % 128, 0⟩) rfl rfl info_sps Z0.out (by simp [sL]) (one_sL _) ?_
        intro v8 c8 p8
        have s8 : Only [] W v8 := SA.out.trans2 p8 (fun y hy => .inr (by have := TW.out; simp at hy; omega))
        refine hJ _ _ ⟨s8, ?_⟩
        clear hJ J
        (try simp only [Act.put, List.setIfInBounds_toArray, List.set_cons_zero, List.set_cons_succ])
        refine wpAnyH_done (by kernel_rfl) ?_ _
        go_wp2_with fail
        go_meet
        exact ⟨_, rfl, c8, s8, TW.out⟩
    · skip
      refine wpOp_step (o := _) rfl (fun J hJ => ?_)
      try rw [if_pos (by rfl)]
      go_simp
      refine hJ _ _ ⟨SA.out, ?_⟩
      clear hJ J
      (try simp only [Act.put, List.setIfInBounds_toArray, List.set_cons_zero, List.set_cons_succ])
      refine wpAnyH_all (rs := [13]) (by kernel_rfl) (by simp) (fun i hi => ?_)
      simp only [List.mem_cons, List.not_mem_nil, or_false] at hi
      subst hi
      refine wpOp_step (o := _) rfl (fun J hJ => ?_)
      try rw [if_pos (by rfl)]
      go_simp
      refine (mod6_any b 32 (by omega) (by omega) _).mono ?_
      rintro _ w9 ⟨rfl, hw9⟩
      rw [hw9]
      clear hw9 w9
      refine hJ _ _ ⟨SA.out, ?_⟩
      clear hJ J
      (try simp only [Act.put, List.setIfInBounds_toArray, List.set_cons_zero, List.set_cons_succ])
      refine wpAnyH_all (rs := [16]) (by kernel_rfl) (by simp) (fun i hi => ?_)
      simp only [List.mem_cons, List.not_mem_nil, or_false] at hi
      subst hi
      refine wpOp_step (o := _) rfl (fun J hJ => ?_)
      try rw [if_pos (by rfl)]
      go_simp
      refine (mod6_any c 13 (by omega) (by omega) _).mono ?_
      rintro _ w9 ⟨rfl, hw9⟩
      rw [hw9]
      clear hw9 w9
      refine hJ _ _ ⟨SA.out, ?_⟩
      clear hJ J
      (try simp only [Act.put, List.setIfInBounds_toArray, List.set_cons_zero, List.set_cons_succ])
      refine wpAnyH_read 17 (v := ?va37) rfl (by kernel_rfl) (by kernel_rfl) (by kernel_rfl) (fun _ _ _ h => h) SA.out (Or.inl ⟨by rfl, ?ya37⟩) ?ra37
      case ya37 =>
        intro w hSw
        obtain ⟨n0, n1, n2, n3, n4, n5⟩ := XC.out w hSw
        go_simp
        (try with_reducible rfl)
      (try simp only [Act.put, List.setIfInBounds_toArray, List.set_cons_zero, List.set_cons_succ])
      refine wpAnyH_all (rs := [20]) (by kernel_rfl) (by simp) (fun i hi => ?_)
      simp only [List.mem_cons, List.not_mem_nil, or_false] at hi
      subst hi
      refine wpOp_step (o := _) rfl (fun J hJ => ?_)
      try rw [if_pos (by rfl)]
      go_simp
      refine (mod6_any d 13 (by omega) (by omega) _).mono ?_
      rintro _ w9 ⟨rfl, hw9⟩
      rw [hw9]
      clear hw9 w9
      refine hJ _ _ ⟨SA.out, ?_⟩
      clear hJ J
      (try simp only [Act.put, List.setIfInBounds_toArray, List.set_cons_zero, List.set_cons_succ])
      refine wpAnyH_read 21 (v := ?va38) rfl (by kernel_rfl) (by kernel_rfl) (by kernel_rfl) (fun _ _ _ h => h) SA.out (Or.inl ⟨by rfl, ?ya38⟩) ?ra38
      case ya38 =>
        intro w hSw
        obtain ⟨n0, n1, n2, n3, n4, n5⟩ := XC.out w hSw
        go_simp
        (try with_reducible rfl)
      (try simp only [Act.put, List.setIfInBounds_toArray, List.set_cons_zero, List.set_cons_succ])
      refine wpAnyH_all (rs := [24]) (by kernel_rfl) (by simp) (fun i hi => ?_)
      simp only [List.mem_cons, List.not_mem_nil, or_false] at hi
      subst hi
      refine wpOp_step (o := _) rfl (fun J hJ => ?_)
      try rw [if_pos (by rfl)]
      go_simp
      refine (mod6_any e 17 (by omega) (by omega) _).mono ?_
      rintro _ w9 ⟨rfl, hw9⟩
      rw [hw9]
      clear hw9 w9
      refine hJ _ _ ⟨SA.out, ?_⟩
      clear hJ J
      (try simp only [Act.put, List.setIfInBounds_toArray, List.set_cons_zero, List.set_cons_succ])
      refine wpAnyH_all (rs := [27]) (by kernel_rfl) (by simp) (fun i hi => ?_)
      simp only [List.mem_cons, List.not_mem_nil, or_false] at hi
      subst hi
      refine wpOp_step (o := _) rfl (fun J hJ => ?_)
      try rw [if_pos (by rfl)]
      go_simp
      refine (mod6_any f 128 (by omega) (by omega) _).mono ?_
      rintro _ w9 ⟨rfl, hw9⟩
      rw [hw9]
      clear hw9 w9
      refine hJ _ _ ⟨SA.out, ?_⟩
      clear hJ J
      (try simp only [Act.put, List.setIfInBounds_toArray, List.set_cons_zero, List.set_cons_succ])
      refine wpAnyH_read 28 (v := ?va39) rfl (by kernel_rfl) (by kernel_rfl) (by kernel_rfl) (fun _ _ _ h => h) SA.out (Or.inl ⟨by rfl, ?ya39⟩) ?ra39
      case ya39 =>
        intro w hSw
        obtain ⟨n0, n1, n2, n3, n4, n5⟩ := XC.out w hSw
        go_simp
        (try with_reducible rfl)
      (try simp only [Act.put, List.setIfInBounds_toArray, List.set_cons_zero, List.set_cons_succ])
      refine wpAnyH_read 29 (v := ?va40) rfl (by kernel_rfl) (by kernel_rfl) (by kernel_rfl) (fun _ _ _ h => h) SA.out (Or.inl ⟨by rfl, ?ya40⟩) ?ra40
      case ya40 =>
        intro w hSw
        obtain ⟨n0, n1, n2, n3, n4, n5⟩ := XC.out w hSw
        go_simp
        (try with_reducible rfl)
      (try simp only [Act.put, List.setIfInBounds_toArray, List.set_cons_zero, List.set_cons_succ])
      refine wpAnyH_all (rs := [31]) (by kernel_rfl) (by simp) (fun i hi => ?_)
      simp only [List.mem_cons, List.not_mem_nil, or_false] at hi
      subst hi
      refine wpOp_step (o := _) rfl (fun J hJ => ?_)
      rw [if_pos (by rfl)]
      refine wp_store_op 29 _ _ rfl wd.heap.size _ _ (sL ⟨IntKind.u8.wrap a, IntKind.u8.wrap (a / 256), IntKind.u8.wrap (a / 65536), b % 32, 4 + c % 13, 4 + d % 13, e % 17, 1 + f % 128, 0⟩) rfl rfl info_sps Z0.out (by simp [sL]) (one_sL _) ?_
      intro v8 c8 p8
      have s8 : Only [] W v8 := SA.out.trans2 p8 (fun y hy => .inr (by have := TW.out; simp at hy; omega))
      refine hJ _ _ ⟨s8, ?_⟩
      clear hJ J
      (try simp only [Act.put, List.setIfInBounds_toArray, List.set_cons_zero, List.set_cons_succ])
      refine wpAnyH_done (by kernel_rfl) ?_ _
      go_wp2_with fail
      go_meet
      exact ⟨_, rfl, c8, s8, TW.out⟩
  case rest =>
  obtain ⟨T, rfl, hT, hO, hTW⟩ := hcut
  have BT := hid hT
  have O1 := hid hO
  have TW := hid hTW
  have x7 := hT.cell (i := 7) (v := .int .i64 (1 + f % 128)) rfl
  have n6 := (BN.out.only hO (by simp)).cell (i := 6) (v := .int .i64 g) rfl
  have x8 := hT.cell (i := 8) (v := .int .i64 0) rfl
  have y8 := hT.frozen 8
  clear hT hO hTW XC w1 w2 w3 m1 m2 m3 m4
  have e0 : ((1 + f % 128 : Int) == 0) = false := by rw [beq_eq_false_iff_ne]; omega
  have e1 : ¬ (1 + f % 128 : Int) = 0 := by omega
  have e2 : Int.tdiv 8160 (1 + f % 128) = 8160 / (1 + f % 128) := Int.tdiv_eq_ediv_of_nonneg (by omega)
  rw [WD.out] at MI WI
  obtain ⟨v, hv⟩ : ∃ v, v = (1 + f % 128 : Int) := ⟨_, rfl⟩
  rw [← hv] at e0 e1 e2 MI WI x7
  obtain ⟨k, hk⟩ : ∃ k, k = 8160 / v := ⟨_, rfl⟩
  rw [← hk] at e2 MI
  have k1 : 0 ≤ k ∧ k ≤ 8160 := by rw [hk]; exact ⟨Int.ediv_nonneg (by omega) (by omega), Int.ediv_le_self _ (by omega)⟩
  have e3 : IntKind.i64.wrap k = k := IntWalk.i64_in _ ⟨by omega, by omega⟩
  obtain ⟨mm, hmm⟩ : ∃ m, m = min (128 : Int) k := ⟨_, rfl⟩
  have hm' : min (128 : Int) k = mm := hmm.symm
  rw [hm'] at MI
  have q1 := Int.emod_nonneg g (show mm ≠ 0 by omega)
  have q2 := Int.emod_lt_of_pos g (show 0 < mm by omega)
  have e4 : IntKind.i64.wrap (1 + g % mm) = 1 + g % mm := IntWalk.i64_in _ ⟨by omega, by omega⟩
  have EE := hid (show (1 + g % (min 128 (8160 / (1 + f % 128))) : Int) = 1 + g % mm from by rw [← hv, ← hk, hm'])
  have VV := hid hv
  have G1 := hid (show 0 < mm ∧ mm ≤ 4611686018427387904 from by omega)
  clear hv hk hmm k1 m5 m6 WI MI q1 q2
  go_upto_region 2 with (fail)
  refine wp_region_still_tail 8 (by kernel_rfl) (by kernel_rfl) ?_
  simp only [List.take_succ_cons, List.take_zero, List.drop_succ_cons, List.drop_zero]
  iterate 6 still_step
  still_call (mod6_any g mm G1.out.1 G1.out.2 _)
  still_step
  refine wpStill_nil ?_
  go_upto_region 3 with (fail)
  generalize hw4 : World.setCell _ _ _ = w4
  have B4 : Blk w4 T 29 (sL (validS ⟨a, b, c, d, e, f, g, h⟩ (bytesN ⟨a, b, c, d, e, f, g, h⟩))).toArray := by
    rw [← hw4, R.out, WD.out, EE.out]
    exact BT.out.set 8 (.int .i64 (1 + g % mm))
  have OT : Only [T] wc w4 := by rw [← hw4]; exact (Only.refl [T] wc).setCell (p := ⟨T, 8, none⟩) (.inl (by simp)) _
  have O4 := hid (O1.out.trans2 OT (fun y hy => .inr (by rw [List.mem_singleton.1 hy]; exact TW.out)))
  have B4' : Blk w4.drew T 29 (sL (validS ⟨a, b, c, d, e, f, g, h⟩ (bytesN ⟨a, b, c, d, e, f, g, h⟩))).toArray := B4
  have O5 := hid (O4.out.drew)
  have B5 := hid (BR.out.only O5.out (by simp))
  clear hw4 x7 n6 x8 y8 e0 e1 e2 e3 e4 hm'
  go_wp2_with (first
    | (refine load_blk rfl 29 _ rfl T _ (sL (validS ⟨a, b, c, d, e, f, g, h⟩ (bytesN ⟨a, b, c, d, e, f, g, h⟩))) rfl B4' (hl_sps _ _) ?_)
    | (refine store_blk rfl 29 _ _ rfl (p + 1) 0 _ _ (sL (validS ⟨a, b, c, d, e, f, g, h⟩ (bytesN ⟨a, b, c, d, e, f, g, h⟩))) rfl rfl info_sps B5.out (by simp [sL]) (one_sL _) ?_; intro w5 hB5 hO5; rw [setsA_full (by simp [sL])] at hB5))
  refine bodyPost_ret (v := sV (validS ⟨a, b, c, d, e, f, g, h⟩ (bytesN ⟨a, b, c, d, e, f, g, h⟩))) (res_c rfl rfl (lv_sps hB5)) rfl ⟨rfl, ?_⟩
  exact (OW.out.trans O5.out).trans2 hO5 (fun y hy => .inr (by have := PW.out; simp at hy; omega))
end Go.Proofs.YtojahafmfcfpaaaGreatDoor

/- NalUnits' walk. -/
import Derived.Test.YtghdnefaempigaaDoorKn
import Derived.Test.YtghdnefaempigaaDoorDec
import Derived.Test.YtghdnefaempigaaDoorUnM
import Derived.Test.YtghdnefaempigaaDoorBig
import Derived.Test.YtghdnefaempigaaDoorUnit
import Derived.ShutString
import Derived.ChangeOld
import Derived.ProofKit
import Derived.OpenShut
namespace Go.Proofs.YtghdnefaempigaaDoor
open Go.RowKit
open Go.ChangeMaps (open_string shut_string)
set_option linter.unusedVariables false
set_option linter.unusedSimpArgs false

set_option maxHeartbeats 1000000 in
theorem units_known (a b : Int) (pl s : ByteArray) (w : World) (hp : pl.size ≤ maxLen) (hs : s.size ≤ maxLen) (h : 1000 < pl.size ∨ (pl.size ≤ 1000 ∧ 1000 < s.size)) :
    Calls Tryd.prog 8 #[.int .u8 a, .int .u8 b, .string pl, .string s] w fun e w' => e = .returned (.bool true) ∧ Only [] w w' := by
  have hm' : (s.size : Int) ≤ 9223372036854775807 := by unfold maxLen at hs; omega
  have hn' : (pl.size : Int) ≤ 9223372036854775807 := by unfold maxLen at hp; omega
  have KN := hid (fun w => known_any w)
  clear hp hs
  rcases h with h | ⟨h, h2⟩
  · have i1 : (1000 : Int) < (pl.size : Int) := by omega
    go_enter Tryd.func8, Tryd.ntmps8
    go_wp2_with (go_at_call 11; refine (KN.out _).mono ?_; rintro e w3 ⟨rfl, ho3⟩; have O3 := hid ho3; clear ho3)
    go_ret
    exact ⟨rfl, O3.out⟩
  · have i1 : ¬ (1000 : Int) < (pl.size : Int) := by omega
    have i2 : (1000 : Int) < (s.size : Int) := by omega
    go_enter Tryd.func8, Tryd.ntmps8
    go_wp2_with (go_at_call 11; refine (KN.out _).mono ?_; rintro e w3 ⟨rfl, ho3⟩; have O3 := hid ho3; clear ho3)
    go_ret
    exact ⟨rfl, O3.out⟩

/-- Enough of what is read in the first half: where the unit has bytes. -/
structure Has1 (r k : Nat) (x y : UInt8) (pl P T : ByteArray) : Prop where
  t0 : 0 < T.size
  hx : x.toNat = 32 * r + k
  hT : bytesOf [x] ++ P = T
  ty : T[T.size - 1]'(by omega) = y
  ts : T.size ≤ 100001
  en : encR r k pl.data.toList = if 32 * r + k = 0 ∨ y = 0 then (⟨#[]⟩, 4) else (T, 0)
  z : r + k = 0 ↔ x = 0
  la : ∀ h : 0 < P.size, P[P.size - 1]'(by omega) = y
  le : P.size = 0 → y = x
  de : x ≠ 0 → y ≠ 0 → decR T = ((r : Int), (k : Int), pl, (0 : Int))
  cl : x ≠ 0 → ∀ i, ¬ Bad T.data.toList i
theorem has_any (r k : Nat) (pl : ByteArray) (hr : r ≤ 3) (hk : k ≤ 31) (hp : pl.size ≤ 50000) : ∃ (x y : UInt8) (T : ByteArray), Has1 r k x y pl (bytesOf (esc pl.data.toList)) T := by
  obtain ⟨x, y, T, h0, hx, hT, tx, ty, ts, en⟩ := unit_facts r k pl.data.toList hr hk (by simpa using hp)
  obtain ⟨⟨a, b, c⟩, d, e⟩ := unit_more r k pl.data.toList x y T h0 hr hk hx hT tx ty
  rw [bytesOf_data] at d
  exact ⟨x, y, T, h0, hx, hT, ty, ts, en, a, b, c, d, e⟩

set_option maxRecDepth 100000 in
set_option maxHeartbeats 4000000 in
theorem units_a1 (ref kind r k : Nat) (x y : UInt8) (pl s P T : ByteArray) (w : World) (a b : Nat) (q : ByteArray) (c : Int) (hpl : pl.size ≤ 1000) (hs : s.size ≤ 1000) (hr : r = ref % 4) (hk : k = kind % 32) (hrb : ref ≤ 255) (hkb : kind ≤ 255)
    (hP : P = bytesOf (esc pl.data.toList)) (Z : Has1 r k x y pl P T) (hx : x ≠ 0) (hy : y ≠ 0) (hp0 : P.size = 0) (hd : decR s = ((a : Int), (b : Int), q, c)) (hc : c = 0) (ha : a ≤ 255) (hb : b ≤ 255) (hq : q.size ≤ 50000) (he : encR a b q.data.toList = (s, 0)) :
    Calls Tryd.prog 8 #[.int .u8 ref, .int .u8 kind, .string pl, .string s] w fun e w' => e = .returned (.bool true) ∧ Only [] w w' := by
  have i1 : ¬ (1000 : Int) < (pl.size : Int) := by omega
  have i2 : ¬ (1000 : Int) < (s.size : Int) := by omega
  have hrI : (ref : Int) % 4 = (r : Int) := by omega
  have hkI : (kind : Int) % 32 = (k : Int) := by omega
  have r3 : (r : Int) ≤ 3 := by omega
  have k31 : (k : Int) ≤ 31 := by omega
  have rf0 : (0 : Int) ≤ (ref : Int) := by omega
  have kf0 : (0 : Int) ≤ (kind : Int) := by omega
  have KN := hid (fun w => known_any w)
  have C1 := hid (fun w => encode_any r k pl w (by omega) (by omega) (by omega))
  have C2 := hid (fun w => esc_any pl w (by omega))
  have C5 := hid (fun w => dec_any s w (by omega))
  unfold decV at C5
  rw [hd] at C5
  dsimp only at C5
  rw [← hP] at C2
  have hPl : P.size ≤ 2000 := by
    have := (esc_len pl.data.toList).2
    have h2 : pl.data.toList.length = pl.size := by simp
    rw [hP, size_bytesOf]; omega
  have hw3 : IntKind.u8.wrap ((r : Int) + (k : Int)) = (r : Int) + (k : Int) := by rw [IntKind.wrap_u8]; omega
  have hxn := hid Z.hx
  have C6 := hid (fun w => encode_any a b q w ha hb hq)
  rw [he] at C6
  dsimp only at C6
  subst hc
  have ex : ¬ x = 0 := hx
  have h32 : ¬ (32 * r + k = 0 ∨ y = 0) := by
    rintro (e | e)
    · exact hx (Z.z.1 (by omega))
    · exact hy e
  have hen := Z.en
  rw [if_neg h32] at hen
  rw [hen] at C1
  have hts : T.size ≤ 2001 := by rw [← Z.hT, ByteArray.size_append, size_bytesOf]; simp only [List.length_cons, List.length_nil]; omega
  have C3 := hid (fun w => dec_any T w (by omega))
  unfold decV at C3
  rw [Z.de hx hy] at C3
  dsimp only at C1 C3
  have C4 := hid (fun w => clean_any T w (by have := Z.ts; omega) (Z.cl hx))
  have hw1 : IntKind.u8.wrap ((r : Int) * 32) = (r : Int) * 32 := by rw [IntKind.wrap_u8]; omega
  have hw2 : IntKind.u8.wrap ((r : Int) * 32 + (k : Int)) = (x.toNat : Int) := by rw [IntKind.wrap_u8, hxn.out]; omega
  have rk : (0 : Int) < (r : Int) + (k : Int) := by
    have : r + k ≠ 0 := fun e => hx (Z.z.1 e)
    omega
  have HT := Z.hT
  have bs1 : (bytesOf [x]).size + P.size ≤ 9223372036854775807 := by rw [size_bytesOf]; simp only [List.length_cons, List.length_nil]; omega
  have tne := empty_no T Z.t0
  have t1 : (1 : Int) ≤ (T.size : Int) := by have := Z.t0; omega
  have t2 : T.size - 1 < T.size := by have := Z.t0; omega
  have t3 : (T.size : Int) ≤ 100001 := by have := Z.ts; omega
  have tl : ¬ ((T[T.size - 1]'t2).toNat : Int) = 0 := by
    rw [Z.ty]
    exact mt (u8_zeroI _).2 hy
  have tb : (((T[T.size - 1]'t2).toNat : Int) == 0) = false := by rw [beq_eq_false_iff_ne]; exact tl
  have pe : P.toList.isEmpty = true := by
    obtain rfl : P = ⟨#[]⟩ := by apply ByteArray.ext; exact Array.eq_empty_of_size_eq_zero hp0
    rw [Lib.toList_data]; rfl
  clear hP hPl Z ex h32 hen hx hy
  clear hr hk hd
  go_enter Tryd.func8, Tryd.ntmps8
  go_wp2_with fail
  refine (C1.out _).mono ?_
  rintro e w3 ⟨rfl, ho3⟩
  have O3 := hid ho3
  have u3 := (UH.new _ _ _ _).only ho3
  clear ho3
  go_wp2_with fail
  refine (C2.out _).mono ?_
  rintro e w4 ⟨rfl, ho4⟩
  have O4 := hid ho4
  have u4 := u3.only ho4
  obtain ⟨a0, a1, a2⟩ := u4.u3
  clear ho4 u3
  have CA := conv_new x w4
  go_wp2_with fail
  refine (C3.out _).mono ?_
  rintro e w5 ⟨rfl, ho5⟩
  have O5 := hid ho5
  have u5 := (u4.alloc _).only ho5
  obtain ⟨b0, b1, b2⟩ := u5.u3
  have z5 := (Array.getElem?_eq_some_iff.1 u5).1
  clear ho5 a0 a1 a2 CA u4
  go_wp2_with fail
  refine (C4.out _).mono ?_
  rintro e w' ⟨rfl, rfl⟩
  go_wp2_with fail
  refine (C5.out _).mono ?_
  rintro e w6 ⟨rfl, ho6⟩
  have O6 := hid ho6
  clear ho6
  go_wp2_with fail
  refine (C6.out _).mono ?_
  rintro e w7 ⟨rfl, ho7⟩
  have O7 := hid ho7
  clear ho7
  go_wp2_with (first
    | (go_at_call 11; refine (KN.out _).mono ?_; rintro e w9 ⟨rfl, ho9⟩; have O9 := hid ho9; clear ho9))
  go_ret
  exact ⟨rfl, ((((((((((Only.refl [] w).alloc _).trans O3.out).trans O4.out).alloc _).trans O5.out).alloc _).trans O6.out).alloc _).trans O7.out).trans O9.out⟩
set_option maxRecDepth 100000 in
set_option maxHeartbeats 4000000 in
theorem units_a0 (ref kind r k : Nat) (x y : UInt8) (pl s P T : ByteArray) (w : World) (a b : Nat) (q : ByteArray) (c : Int) (hpl : pl.size ≤ 1000) (hs : s.size ≤ 1000) (hr : r = ref % 4) (hk : k = kind % 32) (hrb : ref ≤ 255) (hkb : kind ≤ 255)
    (hP : P = bytesOf (esc pl.data.toList)) (Z : Has1 r k x y pl P T) (hx : x ≠ 0) (hy : y ≠ 0) (hp0 : P.size = 0) (hd : decR s = ((a : Int), (b : Int), q, c)) (hc : ¬ c = 0) :
    Calls Tryd.prog 8 #[.int .u8 ref, .int .u8 kind, .string pl, .string s] w fun e w' => e = .returned (.bool true) ∧ Only [] w w' := by
  have i1 : ¬ (1000 : Int) < (pl.size : Int) := by omega
  have i2 : ¬ (1000 : Int) < (s.size : Int) := by omega
  have hrI : (ref : Int) % 4 = (r : Int) := by omega
  have hkI : (kind : Int) % 32 = (k : Int) := by omega
  have r3 : (r : Int) ≤ 3 := by omega
  have k31 : (k : Int) ≤ 31 := by omega
  have rf0 : (0 : Int) ≤ (ref : Int) := by omega
  have kf0 : (0 : Int) ≤ (kind : Int) := by omega
  have KN := hid (fun w => known_any w)
  have C1 := hid (fun w => encode_any r k pl w (by omega) (by omega) (by omega))
  have C2 := hid (fun w => esc_any pl w (by omega))
  have C5 := hid (fun w => dec_any s w (by omega))
  unfold decV at C5
  rw [hd] at C5
  dsimp only at C5
  rw [← hP] at C2
  have hPl : P.size ≤ 2000 := by
    have := (esc_len pl.data.toList).2
    have h2 : pl.data.toList.length = pl.size := by simp
    rw [hP, size_bytesOf]; omega
  have hw3 : IntKind.u8.wrap ((r : Int) + (k : Int)) = (r : Int) + (k : Int) := by rw [IntKind.wrap_u8]; omega
  have hxn := hid Z.hx
  have ex : ¬ x = 0 := hx
  have h32 : ¬ (32 * r + k = 0 ∨ y = 0) := by
    rintro (e | e)
    · exact hx (Z.z.1 (by omega))
    · exact hy e
  have hen := Z.en
  rw [if_neg h32] at hen
  rw [hen] at C1
  have hts : T.size ≤ 2001 := by rw [← Z.hT, ByteArray.size_append, size_bytesOf]; simp only [List.length_cons, List.length_nil]; omega
  have C3 := hid (fun w => dec_any T w (by omega))
  unfold decV at C3
  rw [Z.de hx hy] at C3
  dsimp only at C1 C3
  have C4 := hid (fun w => clean_any T w (by have := Z.ts; omega) (Z.cl hx))
  have hw1 : IntKind.u8.wrap ((r : Int) * 32) = (r : Int) * 32 := by rw [IntKind.wrap_u8]; omega
  have hw2 : IntKind.u8.wrap ((r : Int) * 32 + (k : Int)) = (x.toNat : Int) := by rw [IntKind.wrap_u8, hxn.out]; omega
  have rk : (0 : Int) < (r : Int) + (k : Int) := by
    have : r + k ≠ 0 := fun e => hx (Z.z.1 e)
    omega
  have HT := Z.hT
  have bs1 : (bytesOf [x]).size + P.size ≤ 9223372036854775807 := by rw [size_bytesOf]; simp only [List.length_cons, List.length_nil]; omega
  have tne := empty_no T Z.t0
  have t1 : (1 : Int) ≤ (T.size : Int) := by have := Z.t0; omega
  have t2 : T.size - 1 < T.size := by have := Z.t0; omega
  have t3 : (T.size : Int) ≤ 100001 := by have := Z.ts; omega
  have tl : ¬ ((T[T.size - 1]'t2).toNat : Int) = 0 := by
    rw [Z.ty]
    exact mt (u8_zeroI _).2 hy
  have tb : (((T[T.size - 1]'t2).toNat : Int) == 0) = false := by rw [beq_eq_false_iff_ne]; exact tl
  have pe : P.toList.isEmpty = true := by
    obtain rfl : P = ⟨#[]⟩ := by apply ByteArray.ext; exact Array.eq_empty_of_size_eq_zero hp0
    rw [Lib.toList_data]; rfl
  clear hP hPl Z ex h32 hen hx hy
  clear hr hk hd
  go_enter Tryd.func8, Tryd.ntmps8
  go_wp2_with fail
  refine (C1.out _).mono ?_
  rintro e w3 ⟨rfl, ho3⟩
  have O3 := hid ho3
  have u3 := (UH.new _ _ _ _).only ho3
  clear ho3
  go_wp2_with fail
  refine (C2.out _).mono ?_
  rintro e w4 ⟨rfl, ho4⟩
  have O4 := hid ho4
  have u4 := u3.only ho4
  obtain ⟨a0, a1, a2⟩ := u4.u3
  clear ho4 u3
  have CA := conv_new x w4
  go_wp2_with fail
  refine (C3.out _).mono ?_
  rintro e w5 ⟨rfl, ho5⟩
  have O5 := hid ho5
  have u5 := (u4.alloc _).only ho5
  obtain ⟨b0, b1, b2⟩ := u5.u3
  have z5 := (Array.getElem?_eq_some_iff.1 u5).1
  clear ho5 a0 a1 a2 CA u4
  go_wp2_with fail
  refine (C4.out _).mono ?_
  rintro e w' ⟨rfl, rfl⟩
  go_wp2_with fail
  refine (C5.out _).mono ?_
  rintro e w6 ⟨rfl, ho6⟩
  have O6 := hid ho6
  clear ho6
  go_wp2_with (first
    | (go_at_call 11; refine (KN.out _).mono ?_; rintro e w9 ⟨rfl, ho9⟩; have O9 := hid ho9; clear ho9))
  go_ret
  exact ⟨rfl, (((((((((Only.refl [] w).alloc _).trans O3.out).trans O4.out).alloc _).trans O5.out).alloc _).trans O6.out).alloc _).trans O9.out⟩
set_option maxRecDepth 100000 in
set_option maxHeartbeats 4000000 in
theorem units_b1 (ref kind r k : Nat) (x y : UInt8) (pl s P T : ByteArray) (w : World) (a b : Nat) (q : ByteArray) (c : Int) (hpl : pl.size ≤ 1000) (hs : s.size ≤ 1000) (hr : r = ref % 4) (hk : k = kind % 32) (hrb : ref ≤ 255) (hkb : kind ≤ 255)
    (hP : P = bytesOf (esc pl.data.toList)) (Z : Has1 r k x y pl P T) (hx : x ≠ 0) (hy : y ≠ 0) (hp0 : 0 < P.size) (hd : decR s = ((a : Int), (b : Int), q, c)) (hc : c = 0) (ha : a ≤ 255) (hb : b ≤ 255) (hq : q.size ≤ 50000) (he : encR a b q.data.toList = (s, 0)) :
    Calls Tryd.prog 8 #[.int .u8 ref, .int .u8 kind, .string pl, .string s] w fun e w' => e = .returned (.bool true) ∧ Only [] w w' := by
  have i1 : ¬ (1000 : Int) < (pl.size : Int) := by omega
  have i2 : ¬ (1000 : Int) < (s.size : Int) := by omega
  have hrI : (ref : Int) % 4 = (r : Int) := by omega
  have hkI : (kind : Int) % 32 = (k : Int) := by omega
  have r3 : (r : Int) ≤ 3 := by omega
  have k31 : (k : Int) ≤ 31 := by omega
  have rf0 : (0 : Int) ≤ (ref : Int) := by omega
  have kf0 : (0 : Int) ≤ (kind : Int) := by omega
  have KN := hid (fun w => known_any w)
  have C1 := hid (fun w => encode_any r k pl w (by omega) (by omega) (by omega))
  have C2 := hid (fun w => esc_any pl w (by omega))
  have C5 := hid (fun w => dec_any s w (by omega))
  unfold decV at C5
  rw [hd] at C5
  dsimp only at C5
  rw [← hP] at C2
  have hPl : P.size ≤ 2000 := by
    have := (esc_len pl.data.toList).2
    have h2 : pl.data.toList.length = pl.size := by simp
    rw [hP, size_bytesOf]; omega
  have hw3 : IntKind.u8.wrap ((r : Int) + (k : Int)) = (r : Int) + (k : Int) := by rw [IntKind.wrap_u8]; omega
  have hxn := hid Z.hx
  have C6 := hid (fun w => encode_any a b q w ha hb hq)
  rw [he] at C6
  dsimp only at C6
  subst hc
  have ex : ¬ x = 0 := hx
  have h32 : ¬ (32 * r + k = 0 ∨ y = 0) := by
    rintro (e | e)
    · exact hx (Z.z.1 (by omega))
    · exact hy e
  have hen := Z.en
  rw [if_neg h32] at hen
  rw [hen] at C1
  have hts : T.size ≤ 2001 := by rw [← Z.hT, ByteArray.size_append, size_bytesOf]; simp only [List.length_cons, List.length_nil]; omega
  have C3 := hid (fun w => dec_any T w (by omega))
  unfold decV at C3
  rw [Z.de hx hy] at C3
  dsimp only at C1 C3
  have C4 := hid (fun w => clean_any T w (by have := Z.ts; omega) (Z.cl hx))
  have hw1 : IntKind.u8.wrap ((r : Int) * 32) = (r : Int) * 32 := by rw [IntKind.wrap_u8]; omega
  have hw2 : IntKind.u8.wrap ((r : Int) * 32 + (k : Int)) = (x.toNat : Int) := by rw [IntKind.wrap_u8, hxn.out]; omega
  have rk : (0 : Int) < (r : Int) + (k : Int) := by
    have : r + k ≠ 0 := fun e => hx (Z.z.1 e)
    omega
  have HT := Z.hT
  have bs1 : (bytesOf [x]).size + P.size ≤ 9223372036854775807 := by rw [size_bytesOf]; simp only [List.length_cons, List.length_nil]; omega
  have tne := empty_no T Z.t0
  have t1 : (1 : Int) ≤ (T.size : Int) := by have := Z.t0; omega
  have t2 : T.size - 1 < T.size := by have := Z.t0; omega
  have t3 : (T.size : Int) ≤ 100001 := by have := Z.ts; omega
  have tl : ¬ ((T[T.size - 1]'t2).toNat : Int) = 0 := by
    rw [Z.ty]
    exact mt (u8_zeroI _).2 hy
  have tb : (((T[T.size - 1]'t2).toNat : Int) == 0) = false := by rw [beq_eq_false_iff_ne]; exact tl
  have pe := empty_no P hp0
  have p1 : (1 : Int) ≤ (P.size : Int) := by omega
  have p2 : P.size - 1 < P.size := by omega
  have p3 : (P.size : Int) ≤ 2000 := by omega
  have pz : ¬ ((P[P.size - 1]'p2).toNat : Int) = 0 := by
    rw [Z.la hp0]
    exact mt (u8_zeroI _).2 hy
  have pb : (((P[P.size - 1]'p2).toNat : Int) != 0) = true := by rw [bne_iff_ne]; exact pz
  clear hP hPl Z ex h32 hen hx hy
  clear hr hk hd
  go_enter Tryd.func8, Tryd.ntmps8
  go_wp2_with fail
  refine (C1.out _).mono ?_
  rintro e w3 ⟨rfl, ho3⟩
  have O3 := hid ho3
  have u3 := (UH.new _ _ _ _).only ho3
  clear ho3
  go_wp2_with fail
  refine (C2.out _).mono ?_
  rintro e w4 ⟨rfl, ho4⟩
  have O4 := hid ho4
  have u4 := u3.only ho4
  obtain ⟨a0, a1, a2⟩ := u4.u3
  clear ho4 u3
  have CA := conv_new x w4
  go_wp2_with fail
  refine (C3.out _).mono ?_
  rintro e w5 ⟨rfl, ho5⟩
  have O5 := hid ho5
  have u5 := (u4.alloc _).only ho5
  obtain ⟨b0, b1, b2⟩ := u5.u3
  have z5 := (Array.getElem?_eq_some_iff.1 u5).1
  clear ho5 a0 a1 a2 CA u4
  go_wp2_with fail
  refine (C4.out _).mono ?_
  rintro e w' ⟨rfl, rfl⟩
  go_wp2_with fail
  refine (C5.out _).mono ?_
  rintro e w6 ⟨rfl, ho6⟩
  have O6 := hid ho6
  clear ho6
  go_wp2_with fail
  refine (C6.out _).mono ?_
  rintro e w7 ⟨rfl, ho7⟩
  have O7 := hid ho7
  clear ho7
  go_wp2_with (first
    | (go_at_call 11; refine (KN.out _).mono ?_; rintro e w9 ⟨rfl, ho9⟩; have O9 := hid ho9; clear ho9))
  go_ret
  exact ⟨rfl, ((((((((((Only.refl [] w).alloc _).trans O3.out).trans O4.out).alloc _).trans O5.out).alloc _).trans O6.out).alloc _).trans O7.out).trans O9.out⟩
set_option maxRecDepth 100000 in
set_option maxHeartbeats 4000000 in
theorem units_b0 (ref kind r k : Nat) (x y : UInt8) (pl s P T : ByteArray) (w : World) (a b : Nat) (q : ByteArray) (c : Int) (hpl : pl.size ≤ 1000) (hs : s.size ≤ 1000) (hr : r = ref % 4) (hk : k = kind % 32) (hrb : ref ≤ 255) (hkb : kind ≤ 255)
    (hP : P = bytesOf (esc pl.data.toList)) (Z : Has1 r k x y pl P T) (hx : x ≠ 0) (hy : y ≠ 0) (hp0 : 0 < P.size) (hd : decR s = ((a : Int), (b : Int), q, c)) (hc : ¬ c = 0) :
    Calls Tryd.prog 8 #[.int .u8 ref, .int .u8 kind, .string pl, .string s] w fun e w' => e = .returned (.bool true) ∧ Only [] w w' := by
  have i1 : ¬ (1000 : Int) < (pl.size : Int) := by omega
  have i2 : ¬ (1000 : Int) < (s.size : Int) := by omega
  have hrI : (ref : Int) % 4 = (r : Int) := by omega
  have hkI : (kind : Int) % 32 = (k : Int) := by omega
  have r3 : (r : Int) ≤ 3 := by omega
  have k31 : (k : Int) ≤ 31 := by omega
  have rf0 : (0 : Int) ≤ (ref : Int) := by omega
  have kf0 : (0 : Int) ≤ (kind : Int) := by omega
  have KN := hid (fun w => known_any w)
  have C1 := hid (fun w => encode_any r k pl w (by omega) (by omega) (by omega))
  have C2 := hid (fun w => esc_any pl w (by omega))
  have C5 := hid (fun w => dec_any s w (by omega))
  unfold decV at C5
  rw [hd] at C5
  dsimp only at C5
  rw [← hP] at C2
  have hPl : P.size ≤ 2000 := by
    have := (esc_len pl.data.toList).2
    have h2 : pl.data.toList.length = pl.size := by simp
    rw [hP, size_bytesOf]; omega
  have hw3 : IntKind.u8.wrap ((r : Int) + (k : Int)) = (r : Int) + (k : Int) := by rw [IntKind.wrap_u8]; omega
  have hxn := hid Z.hx
  have ex : ¬ x = 0 := hx
  have h32 : ¬ (32 * r + k = 0 ∨ y = 0) := by
    rintro (e | e)
    · exact hx (Z.z.1 (by omega))
    · exact hy e
  have hen := Z.en
  rw [if_neg h32] at hen
  rw [hen] at C1
  have hts : T.size ≤ 2001 := by rw [← Z.hT, ByteArray.size_append, size_bytesOf]; simp only [List.length_cons, List.length_nil]; omega
  have C3 := hid (fun w => dec_any T w (by omega))
  unfold decV at C3
  rw [Z.de hx hy] at C3
  dsimp only at C1 C3
  have C4 := hid (fun w => clean_any T w (by have := Z.ts; omega) (Z.cl hx))
  have hw1 : IntKind.u8.wrap ((r : Int) * 32) = (r : Int) * 32 := by rw [IntKind.wrap_u8]; omega
  have hw2 : IntKind.u8.wrap ((r : Int) * 32 + (k : Int)) = (x.toNat : Int) := by rw [IntKind.wrap_u8, hxn.out]; omega
  have rk : (0 : Int) < (r : Int) + (k : Int) := by
    have : r + k ≠ 0 := fun e => hx (Z.z.1 e)
    omega
  have HT := Z.hT
  have bs1 : (bytesOf [x]).size + P.size ≤ 9223372036854775807 := by rw [size_bytesOf]; simp only [List.length_cons, List.length_nil]; omega
  have tne := empty_no T Z.t0
  have t1 : (1 : Int) ≤ (T.size : Int) := by have := Z.t0; omega
  have t2 : T.size - 1 < T.size := by have := Z.t0; omega
  have t3 : (T.size : Int) ≤ 100001 := by have := Z.ts; omega
  have tl : ¬ ((T[T.size - 1]'t2).toNat : Int) = 0 := by
    rw [Z.ty]
    exact mt (u8_zeroI _).2 hy
  have tb : (((T[T.size - 1]'t2).toNat : Int) == 0) = false := by rw [beq_eq_false_iff_ne]; exact tl
  have pe := empty_no P hp0
  have p1 : (1 : Int) ≤ (P.size : Int) := by omega
  have p2 : P.size - 1 < P.size := by omega
  have p3 : (P.size : Int) ≤ 2000 := by omega
  have pz : ¬ ((P[P.size - 1]'p2).toNat : Int) = 0 := by
    rw [Z.la hp0]
    exact mt (u8_zeroI _).2 hy
  have pb : (((P[P.size - 1]'p2).toNat : Int) != 0) = true := by rw [bne_iff_ne]; exact pz
  clear hP hPl Z ex h32 hen hx hy
  clear hr hk hd
  go_enter Tryd.func8, Tryd.ntmps8
  go_wp2_with fail
  refine (C1.out _).mono ?_
  rintro e w3 ⟨rfl, ho3⟩
  have O3 := hid ho3
  have u3 := (UH.new _ _ _ _).only ho3
  clear ho3
  go_wp2_with fail
  refine (C2.out _).mono ?_
  rintro e w4 ⟨rfl, ho4⟩
  have O4 := hid ho4
  have u4 := u3.only ho4
  obtain ⟨a0, a1, a2⟩ := u4.u3
  clear ho4 u3
  have CA := conv_new x w4
  go_wp2_with fail
  refine (C3.out _).mono ?_
  rintro e w5 ⟨rfl, ho5⟩
  have O5 := hid ho5
  have u5 := (u4.alloc _).only ho5
  obtain ⟨b0, b1, b2⟩ := u5.u3
  have z5 := (Array.getElem?_eq_some_iff.1 u5).1
  clear ho5 a0 a1 a2 CA u4
  go_wp2_with fail
  refine (C4.out _).mono ?_
  rintro e w' ⟨rfl, rfl⟩
  go_wp2_with fail
  refine (C5.out _).mono ?_
  rintro e w6 ⟨rfl, ho6⟩
  have O6 := hid ho6
  clear ho6
  go_wp2_with (first
    | (go_at_call 11; refine (KN.out _).mono ?_; rintro e w9 ⟨rfl, ho9⟩; have O9 := hid ho9; clear ho9))
  go_ret
  exact ⟨rfl, (((((((((Only.refl [] w).alloc _).trans O3.out).trans O4.out).alloc _).trans O5.out).alloc _).trans O6.out).alloc _).trans O9.out⟩
set_option maxRecDepth 100000 in
set_option maxHeartbeats 4000000 in
theorem units_c1 (ref kind r k : Nat) (x y : UInt8) (pl s P T : ByteArray) (w : World) (a b : Nat) (q : ByteArray) (c : Int) (hpl : pl.size ≤ 1000) (hs : s.size ≤ 1000) (hr : r = ref % 4) (hk : k = kind % 32) (hrb : ref ≤ 255) (hkb : kind ≤ 255)
    (hP : P = bytesOf (esc pl.data.toList)) (Z : Has1 r k x y pl P T) (rk0 : r + k = 0) (hd : decR s = ((a : Int), (b : Int), q, c)) (hc : c = 0) (ha : a ≤ 255) (hb : b ≤ 255) (hq : q.size ≤ 50000) (he : encR a b q.data.toList = (s, 0)) :
    Calls Tryd.prog 8 #[.int .u8 ref, .int .u8 kind, .string pl, .string s] w fun e w' => e = .returned (.bool true) ∧ Only [] w w' := by
  have i1 : ¬ (1000 : Int) < (pl.size : Int) := by omega
  have i2 : ¬ (1000 : Int) < (s.size : Int) := by omega
  have hrI : (ref : Int) % 4 = (r : Int) := by omega
  have hkI : (kind : Int) % 32 = (k : Int) := by omega
  have r3 : (r : Int) ≤ 3 := by omega
  have k31 : (k : Int) ≤ 31 := by omega
  have rf0 : (0 : Int) ≤ (ref : Int) := by omega
  have kf0 : (0 : Int) ≤ (kind : Int) := by omega
  have KN := hid (fun w => known_any w)
  have C1 := hid (fun w => encode_any r k pl w (by omega) (by omega) (by omega))
  have C2 := hid (fun w => esc_any pl w (by omega))
  have C5 := hid (fun w => dec_any s w (by omega))
  unfold decV at C5
  rw [hd] at C5
  dsimp only at C5
  rw [← hP] at C2
  have hPl : P.size ≤ 2000 := by
    have := (esc_len pl.data.toList).2
    have h2 : pl.data.toList.length = pl.size := by simp
    rw [hP, size_bytesOf]; omega
  have hw3 : IntKind.u8.wrap ((r : Int) + (k : Int)) = (r : Int) + (k : Int) := by rw [IntKind.wrap_u8]; omega
  have hxn := hid Z.hx
  have C6 := hid (fun w => encode_any a b q w ha hb hq)
  rw [he] at C6
  dsimp only at C6
  subst hc
  have hen := Z.en
  rw [if_pos (.inl (by omega))] at hen
  rw [hen] at C1
  dsimp only at C1
  have rk : ¬ (0 : Int) < (r : Int) + (k : Int) := by omega
  clear hP hPl Z hen
  clear hr hk hd
  go_enter Tryd.func8, Tryd.ntmps8
  go_wp2_with fail
  refine (C1.out _).mono ?_
  rintro e w3 ⟨rfl, ho3⟩
  have O3 := hid ho3
  have u3 := (UH.new _ _ _ _).only ho3
  clear ho3
  go_wp2_with fail
  refine (C2.out _).mono ?_
  rintro e w4 ⟨rfl, ho4⟩
  have O4 := hid ho4
  have u4 := u3.only ho4
  obtain ⟨a0, a1, a2⟩ := u4.u3
  clear ho4 u3
  go_wp2_with fail
  refine (C5.out _).mono ?_
  rintro e w6 ⟨rfl, ho6⟩
  have O6 := hid ho6
  clear ho6
  go_wp2_with fail
  refine (C6.out _).mono ?_
  rintro e w7 ⟨rfl, ho7⟩
  have O7 := hid ho7
  clear ho7
  go_wp2_with (first
    | (go_at_call 11; refine (KN.out _).mono ?_; rintro e w9 ⟨rfl, ho9⟩; have O9 := hid ho9; clear ho9))
  go_ret
  exact ⟨rfl, (((((((Only.refl [] w).alloc _).trans O3.out).trans O4.out).trans O6.out).alloc _).trans O7.out).trans O9.out⟩
set_option maxRecDepth 100000 in
set_option maxHeartbeats 4000000 in
theorem units_c0 (ref kind r k : Nat) (x y : UInt8) (pl s P T : ByteArray) (w : World) (a b : Nat) (q : ByteArray) (c : Int) (hpl : pl.size ≤ 1000) (hs : s.size ≤ 1000) (hr : r = ref % 4) (hk : k = kind % 32) (hrb : ref ≤ 255) (hkb : kind ≤ 255)
    (hP : P = bytesOf (esc pl.data.toList)) (Z : Has1 r k x y pl P T) (rk0 : r + k = 0) (hd : decR s = ((a : Int), (b : Int), q, c)) (hc : ¬ c = 0) :
    Calls Tryd.prog 8 #[.int .u8 ref, .int .u8 kind, .string pl, .string s] w fun e w' => e = .returned (.bool true) ∧ Only [] w w' := by
  have i1 : ¬ (1000 : Int) < (pl.size : Int) := by omega
  have i2 : ¬ (1000 : Int) < (s.size : Int) := by omega
  have hrI : (ref : Int) % 4 = (r : Int) := by omega
  have hkI : (kind : Int) % 32 = (k : Int) := by omega
  have r3 : (r : Int) ≤ 3 := by omega
  have k31 : (k : Int) ≤ 31 := by omega
  have rf0 : (0 : Int) ≤ (ref : Int) := by omega
  have kf0 : (0 : Int) ≤ (kind : Int) := by omega
  have KN := hid (fun w => known_any w)
  have C1 := hid (fun w => encode_any r k pl w (by omega) (by omega) (by omega))
  have C2 := hid (fun w => esc_any pl w (by omega))
  have C5 := hid (fun w => dec_any s w (by omega))
  unfold decV at C5
  rw [hd] at C5
  dsimp only at C5
  rw [← hP] at C2
  have hPl : P.size ≤ 2000 := by
    have := (esc_len pl.data.toList).2
    have h2 : pl.data.toList.length = pl.size := by simp
    rw [hP, size_bytesOf]; omega
  have hw3 : IntKind.u8.wrap ((r : Int) + (k : Int)) = (r : Int) + (k : Int) := by rw [IntKind.wrap_u8]; omega
  have hxn := hid Z.hx
  have hen := Z.en
  rw [if_pos (.inl (by omega))] at hen
  rw [hen] at C1
  dsimp only at C1
  have rk : ¬ (0 : Int) < (r : Int) + (k : Int) := by omega
  clear hP hPl Z hen
  clear hr hk hd
  go_enter Tryd.func8, Tryd.ntmps8
  go_wp2_with fail
  refine (C1.out _).mono ?_
  rintro e w3 ⟨rfl, ho3⟩
  have O3 := hid ho3
  have u3 := (UH.new _ _ _ _).only ho3
  clear ho3
  go_wp2_with fail
  refine (C2.out _).mono ?_
  rintro e w4 ⟨rfl, ho4⟩
  have O4 := hid ho4
  have u4 := u3.only ho4
  obtain ⟨a0, a1, a2⟩ := u4.u3
  clear ho4 u3
  go_wp2_with fail
  refine (C5.out _).mono ?_
  rintro e w6 ⟨rfl, ho6⟩
  have O6 := hid ho6
  clear ho6
  go_wp2_with (first
    | (go_at_call 11; refine (KN.out _).mono ?_; rintro e w9 ⟨rfl, ho9⟩; have O9 := hid ho9; clear ho9))
  go_ret
  exact ⟨rfl, ((((((Only.refl [] w).alloc _).trans O3.out).trans O4.out).trans O6.out).alloc _).trans O9.out⟩
set_option maxRecDepth 100000 in
set_option maxHeartbeats 4000000 in
theorem units_d1 (ref kind r k : Nat) (x y : UInt8) (pl s P T : ByteArray) (w : World) (a b : Nat) (q : ByteArray) (c : Int) (hpl : pl.size ≤ 1000) (hs : s.size ≤ 1000) (hr : r = ref % 4) (hk : k = kind % 32) (hrb : ref ≤ 255) (hkb : kind ≤ 255)
    (hP : P = bytesOf (esc pl.data.toList)) (Z : Has1 r k x y pl P T) (rk : 0 < r + k) (hy : y = 0) (hp0 : 0 < P.size) (hd : decR s = ((a : Int), (b : Int), q, c)) (hc : c = 0) (ha : a ≤ 255) (hb : b ≤ 255) (hq : q.size ≤ 50000) (he : encR a b q.data.toList = (s, 0)) :
    Calls Tryd.prog 8 #[.int .u8 ref, .int .u8 kind, .string pl, .string s] w fun e w' => e = .returned (.bool true) ∧ Only [] w w' := by
  have i1 : ¬ (1000 : Int) < (pl.size : Int) := by omega
  have i2 : ¬ (1000 : Int) < (s.size : Int) := by omega
  have hrI : (ref : Int) % 4 = (r : Int) := by omega
  have hkI : (kind : Int) % 32 = (k : Int) := by omega
  have r3 : (r : Int) ≤ 3 := by omega
  have k31 : (k : Int) ≤ 31 := by omega
  have rf0 : (0 : Int) ≤ (ref : Int) := by omega
  have kf0 : (0 : Int) ≤ (kind : Int) := by omega
  have KN := hid (fun w => known_any w)
  have C1 := hid (fun w => encode_any r k pl w (by omega) (by omega) (by omega))
  have C2 := hid (fun w => esc_any pl w (by omega))
  have C5 := hid (fun w => dec_any s w (by omega))
  unfold decV at C5
  rw [hd] at C5
  dsimp only at C5
  rw [← hP] at C2
  have hPl : P.size ≤ 2000 := by
    have := (esc_len pl.data.toList).2
    have h2 : pl.data.toList.length = pl.size := by simp
    rw [hP, size_bytesOf]; omega
  have hw3 : IntKind.u8.wrap ((r : Int) + (k : Int)) = (r : Int) + (k : Int) := by rw [IntKind.wrap_u8]; omega
  have hxn := hid Z.hx
  have C6 := hid (fun w => encode_any a b q w ha hb hq)
  rw [he] at C6
  dsimp only at C6
  subst hc
  have hen := Z.en
  rw [if_pos (.inr hy)] at hen
  rw [hen] at C1
  dsimp only at C1
  have rk' : (0 : Int) < (r : Int) + (k : Int) := by omega
  have pe := empty_no P hp0
  have p1 : (1 : Int) ≤ (P.size : Int) := by omega
  have p2 : P.size - 1 < P.size := by omega
  have p3 : (P.size : Int) ≤ 2000 := by omega
  have pz : ((P[P.size - 1]'p2).toNat : Int) = 0 := by
    rw [Z.la hp0]
    exact (u8_zeroI _).1 hy
  clear hP hPl Z hen hy
  clear hr hk hd
  go_enter Tryd.func8, Tryd.ntmps8
  go_wp2_with fail
  refine (C1.out _).mono ?_
  rintro e w3 ⟨rfl, ho3⟩
  have O3 := hid ho3
  have u3 := (UH.new _ _ _ _).only ho3
  clear ho3
  go_wp2_with fail
  refine (C2.out _).mono ?_
  rintro e w4 ⟨rfl, ho4⟩
  have O4 := hid ho4
  have u4 := u3.only ho4
  obtain ⟨a0, a1, a2⟩ := u4.u3
  clear ho4 u3
  go_wp2_with fail
  refine (C5.out _).mono ?_
  rintro e w6 ⟨rfl, ho6⟩
  have O6 := hid ho6
  clear ho6
  go_wp2_with fail
  refine (C6.out _).mono ?_
  rintro e w7 ⟨rfl, ho7⟩
  have O7 := hid ho7
  clear ho7
  go_wp2_with (first
    | (go_at_call 11; refine (KN.out _).mono ?_; rintro e w9 ⟨rfl, ho9⟩; have O9 := hid ho9; clear ho9))
  go_ret
  exact ⟨rfl, (((((((Only.refl [] w).alloc _).trans O3.out).trans O4.out).trans O6.out).alloc _).trans O7.out).trans O9.out⟩
set_option maxRecDepth 100000 in
set_option maxHeartbeats 4000000 in
theorem units_d0 (ref kind r k : Nat) (x y : UInt8) (pl s P T : ByteArray) (w : World) (a b : Nat) (q : ByteArray) (c : Int) (hpl : pl.size ≤ 1000) (hs : s.size ≤ 1000) (hr : r = ref % 4) (hk : k = kind % 32) (hrb : ref ≤ 255) (hkb : kind ≤ 255)
    (hP : P = bytesOf (esc pl.data.toList)) (Z : Has1 r k x y pl P T) (rk : 0 < r + k) (hy : y = 0) (hp0 : 0 < P.size) (hd : decR s = ((a : Int), (b : Int), q, c)) (hc : ¬ c = 0) :
    Calls Tryd.prog 8 #[.int .u8 ref, .int .u8 kind, .string pl, .string s] w fun e w' => e = .returned (.bool true) ∧ Only [] w w' := by
  have i1 : ¬ (1000 : Int) < (pl.size : Int) := by omega
  have i2 : ¬ (1000 : Int) < (s.size : Int) := by omega
  have hrI : (ref : Int) % 4 = (r : Int) := by omega
  have hkI : (kind : Int) % 32 = (k : Int) := by omega
  have r3 : (r : Int) ≤ 3 := by omega
  have k31 : (k : Int) ≤ 31 := by omega
  have rf0 : (0 : Int) ≤ (ref : Int) := by omega
  have kf0 : (0 : Int) ≤ (kind : Int) := by omega
  have KN := hid (fun w => known_any w)
  have C1 := hid (fun w => encode_any r k pl w (by omega) (by omega) (by omega))
  have C2 := hid (fun w => esc_any pl w (by omega))
  have C5 := hid (fun w => dec_any s w (by omega))
  unfold decV at C5
  rw [hd] at C5
  dsimp only at C5
  rw [← hP] at C2
  have hPl : P.size ≤ 2000 := by
    have := (esc_len pl.data.toList).2
    have h2 : pl.data.toList.length = pl.size := by simp
    rw [hP, size_bytesOf]; omega
  have hw3 : IntKind.u8.wrap ((r : Int) + (k : Int)) = (r : Int) + (k : Int) := by rw [IntKind.wrap_u8]; omega
  have hxn := hid Z.hx
  have hen := Z.en
  rw [if_pos (.inr hy)] at hen
  rw [hen] at C1
  dsimp only at C1
  have rk' : (0 : Int) < (r : Int) + (k : Int) := by omega
  have pe := empty_no P hp0
  have p1 : (1 : Int) ≤ (P.size : Int) := by omega
  have p2 : P.size - 1 < P.size := by omega
  have p3 : (P.size : Int) ≤ 2000 := by omega
  have pz : ((P[P.size - 1]'p2).toNat : Int) = 0 := by
    rw [Z.la hp0]
    exact (u8_zeroI _).1 hy
  clear hP hPl Z hen hy
  clear hr hk hd
  go_enter Tryd.func8, Tryd.ntmps8
  go_wp2_with fail
  refine (C1.out _).mono ?_
  rintro e w3 ⟨rfl, ho3⟩
  have O3 := hid ho3
  have u3 := (UH.new _ _ _ _).only ho3
  clear ho3
  go_wp2_with fail
  refine (C2.out _).mono ?_
  rintro e w4 ⟨rfl, ho4⟩
  have O4 := hid ho4
  have u4 := u3.only ho4
  obtain ⟨a0, a1, a2⟩ := u4.u3
  clear ho4 u3
  go_wp2_with fail
  refine (C5.out _).mono ?_
  rintro e w6 ⟨rfl, ho6⟩
  have O6 := hid ho6
  clear ho6
  go_wp2_with (first
    | (go_at_call 11; refine (KN.out _).mono ?_; rintro e w9 ⟨rfl, ho9⟩; have O9 := hid ho9; clear ho9))
  go_ret
  exact ⟨rfl, ((((((Only.refl [] w).alloc _).trans O3.out).trans O4.out).trans O6.out).alloc _).trans O9.out⟩

theorem dec_not (s : ByteArray) (h : (decR s).2.2.2 ≠ 0) : ∃ c : Int, ¬ c = 0 ∧ decR s = (((0 : Nat) : Int), ((0 : Nat) : Int), ⟨#[]⟩, c) := by
  by_cases h0 : s.size = 0
  · exact ⟨5, by decide, dec_empty s h0⟩
  · have h1 : 0 < s.size := by omega
    rw [dec_fit s h1] at h ⊢
    by_cases hf : fitB s h1 = true
    · rw [if_pos hf] at h ⊢
      cases hu : unesc (s.extract 1 s.size).data.toList with
      | none => exact ⟨4, by decide, rfl⟩
      | some p => rw [hu] at h; exact absurd rfl h
    · rw [if_neg hf]
      exact ⟨4, by decide, rfl⟩
theorem units_all (ref kind : Nat) (pl s : ByteArray) (w : World) (hrb : ref ≤ 255) (hkb : kind ≤ 255) (hp : pl.size ≤ maxLen) (hs : s.size ≤ maxLen) :
    Calls Tryd.prog 8 #[.int .u8 ref, .int .u8 kind, .string pl, .string s] w fun e w' => e = .returned (.bool true) ∧ Only [] w w' := by
  by_cases h1 : 1000 < pl.size
  · exact units_known _ _ pl s w hp hs (.inl h1)
  · by_cases h2 : 1000 < s.size
    · exact units_known _ _ pl s w hp hs (.inr ⟨by omega, h2⟩)
    · obtain ⟨x, y, T, Z⟩ := has_any (ref % 4) (kind % 32) pl (by omega) (by omega) (by omega)
      have l1 : pl.size ≤ 1000 := by omega
      have l2 : s.size ≤ 1000 := by omega
      by_cases hc : (decR s).2.2.2 = 0
      · obtain ⟨a, b, q, hd, ha, hb, hq, he⟩ := dec_enc s hc
        have he' : encR a b (bytesOf q).data.toList = (s, 0) := by rw [bytes_backU]; exact he
        have hq' : (bytesOf q).size ≤ 50000 := by rw [size_bytesOf]; omega
        by_cases rk : ref % 4 + kind % 32 = 0
        · exact units_c1 ref kind _ _ x y pl s _ T w a b _ 0 l1 l2 rfl rfl hrb hkb rfl Z rk hd rfl (by omega) (by omega) hq' he'
        · have hx : x ≠ 0 := fun e => rk (Z.z.2 e)
          by_cases hp0 : (bytesOf (esc pl.data.toList)).size = 0
          · have hy : y ≠ 0 := by rw [Z.le hp0]; exact hx
            exact units_a1 ref kind _ _ x y pl s _ T w a b _ 0 l1 l2 rfl rfl hrb hkb rfl Z hx hy hp0 hd rfl (by omega) (by omega) hq' he'
          · by_cases hy : y = 0
            · exact units_d1 ref kind _ _ x y pl s _ T w a b _ 0 l1 l2 rfl rfl hrb hkb rfl Z (by omega) hy (by omega) hd rfl (by omega) (by omega) hq' he'
            · exact units_b1 ref kind _ _ x y pl s _ T w a b _ 0 l1 l2 rfl rfl hrb hkb rfl Z hx hy (by omega) hd rfl (by omega) (by omega) hq' he'
      · obtain ⟨c, hc, hd⟩ := dec_not s hc
        by_cases rk : ref % 4 + kind % 32 = 0
        · exact units_c0 ref kind _ _ x y pl s _ T w 0 0 _ c l1 l2 rfl rfl hrb hkb rfl Z rk hd hc
        · have hx : x ≠ 0 := fun e => rk (Z.z.2 e)
          by_cases hp0 : (bytesOf (esc pl.data.toList)).size = 0
          · have hy : y ≠ 0 := by rw [Z.le hp0]; exact hx
            exact units_a0 ref kind _ _ x y pl s _ T w 0 0 _ c l1 l2 rfl rfl hrb hkb rfl Z hx hy hp0 hd hc
          · by_cases hy : y = 0
            · exact units_d0 ref kind _ _ x y pl s _ T w 0 0 _ c l1 l2 rfl rfl hrb hkb rfl Z (by omega) hy (by omega) hd hc
            · exact units_b0 ref kind _ _ x y pl s _ T w 0 0 _ c l1 l2 rfl rfl hrb hkb rfl Z hx hy (by omega) hd hc
open Go.ChangeShapes Go.WideShapes Go.ChangeAt
theorem nalUnits_core {H : Type} {enc : TypeId × Value → H} (W : World) (base : Nat)
    (v0 : Value) (d0 : DataW H) (p0 : List MemPlace) (k0 : Value.okWide Tryd.prog W .any base 5 v0) (h0 : DataW.Trod enc Tryd.prog W 0 (fun _ => true) true 5 v0 d0 p0)
    (v1 : Value) (d1 : DataW H) (p1 : List MemPlace) (k1 : Value.okWide Tryd.prog W .any base 5 v1) (h1 : DataW.Trod enc Tryd.prog W 0 (fun _ => true) true 5 v1 d1 p1)
    (v2 : Value) (d2 : DataW H) (p2 : List MemPlace) (k2 : Value.okWide Tryd.prog W .any base 9 v2) (h2 : DataW.Trod enc Tryd.prog W 0 (fun _ => true) true 9 v2 d2 p2)
    (v3 : Value) (d3 : DataW H) (p3 : List MemPlace) (k3 : Value.okWide Tryd.prog W .any base 9 v3) (h3 : DataW.Trod enc Tryd.prog W 0 (fun _ => true) true 9 v3 d3 p3) :
    Calls Tryd.prog 8 #[v0, v1, v2, v3] W fun e w' => e = .returned (.bool true) ∧ Below W.heap.size W w' := by
  obtain ⟨a, rfl, rfl, rfl, w0⟩ := open_int Tryd.underlying5 k0 h0
  obtain ⟨b, rfl, rfl, rfl, w1⟩ := open_int Tryd.underlying5 k1 h1
  obtain ⟨pl, rfl, rfl, rfl, w2⟩ := open_string Tryd.underlying9 k2 h2
  obtain ⟨s, rfl, rfl, rfl, w3⟩ := open_string Tryd.underlying9 k3 h3
  have b1 := bounds_u8u w0
  have b2 := bounds_u8u w1
  obtain ⟨n, rfl⟩ := Int.eq_ofNat_of_zero_le b1.1
  obtain ⟨m, rfl⟩ := Int.eq_ofNat_of_zero_le b2.1
  exact (units_all n m pl s W (by omega) (by omega) w2 w3).mono fun e w' ⟨he, ho⟩ => ⟨he, ho.below (Nat.le_refl _) (by simp)⟩
end Go.Proofs.YtghdnefaempigaaDoor

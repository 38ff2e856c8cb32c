/- append of bytes to a slice that nobody else holds. -/
import Derived.Test.YtdkmeldcpamnnaaDoorWr2
namespace Go.Proofs.YtdkmeldcpamnnaaDoor
open Go.RowKit
set_option linter.unusedVariables false

theorem grown_only {w w' : World} {sv : Value} (h : w.grownBy w' sv.ownBlock) : Only (ownOf sv) w w' :=
  ⟨h.os, h.tape, h.output, h.size, fun k hk hs => h.block k hk (fun e => hs (by unfold ownOf; rw [← e]; simp))⟩

theorem run_append_bytes (w : World) (ty : TypeId) (sv : Value) (bs : List UInt8) (hr : Row w sv bs) (ad : Addr) (c : Nat) (cs : List UInt8) (h0 : 0 < cs.length)
    (hcs : ∀ j v, (cs.map byteV)[j]? = some v → w.cell? (ad.add j) = some v) (hbig : bs.length + cs.length ≤ 140737488355328) :
    ∃ sv' w', (Builtin.append_ #[51, 51] ty #[sv, .slice (some ad) cs.length c]).run Tryd.prog w = .ok sv' w' ∧ Row w' sv' (bs ++ cs) ∧ Only (ownOf sv) w w' ∧ ∀ g, g ∈ ownOf sv' → g ∈ ownOf sv ∨ w.heap.size ≤ g := by
  obtain ⟨i0, hi0, hz0, hs0, hb0⟩ := info_parts info_u8
  have hl : (cs.map byteV).length = cs.length * i0.size := by rw [hs0]; simp
  have one : ∀ u, u ∈ cs.map byteV → u.oneCell' = true := fun u hu => by obtain ⟨x, _, rfl⟩ := List.mem_map.1 hu; rfl
  obtain ⟨v', w', h1, h2, h3, _⟩ := run_append_own (P := Tryd.prog) w 0 51 ty 5 i0 (.int .u8 0) 1 1 und_bytes hi0 hz0 hs0 hb0 rfl (by omega) sv bs.length (bs.map byteV) hr ad cs.length c (cs.map byteV) (by simp) hcs one (by unfold maxLen; omega) (by omega) (Nat.zero_le _)
  refine ⟨v', w', h1, by unfold Row; rw [List.length_append, List.map_append]; exact h2, grown_only h3, fun g hg => ?_⟩
  rcases hr.2 with ⟨rfl, hn⟩ | ⟨g', cap, cur, rfl, hbg, hh, hnc, hcm, hsz, htake⟩
  · have h4 := run_append_nil (P := Tryd.prog) w 51 ty 5 i0 (.int .u8 0) und_bytes hi0 hz0 ad cs.length c (cs.map byteV) hl hcs h0 (by omega) (by rw [hb0]; omega)
    have h5 := h1.symm.trans h4
    injection h5 with h5 _
    rw [h5] at hg
    simp [ownOf, Value.ownBlock] at hg
    exact .inr (by omega)
  · by_cases hroom : bs.length + cs.length ≤ cap
    · have h4 := run_append_room (P := Tryd.prog) w 51 ty 5 i0 und_bytes hi0 g' bs.length cap cur hh ad cs.length c (cs.map byteV) hl hcs one hroom (by rw [hs0, hsz]; simp; omega)
      have h5 := h1.symm.trans h4
      injection h5 with h5 _
      rw [h5] at hg
      exact .inl (by simpa [ownOf, Value.ownBlock] using hg)
    · have holds : ∀ j u, (bs.map byteV)[j]? = some u → w.cell? ((⟨g', 0, none⟩ : Addr).add j) = some u := World.ownsRow.cells (g := g') hr rfl
      have h4 := run_append_grow (P := Tryd.prog) w 51 ty 5 i0 (.int .u8 0) und_bytes hi0 hz0 ⟨g', 0, none⟩ bs.length cap (bs.map byteV) (by rw [hs0]; simp) holds ad cs.length c (cs.map byteV) hl hcs (by omega) (by omega) (by rw [hb0]; have := growslice_fits (need := bs.length + cs.length) (old := cap) (bytes := 1) (by omega) (by omega); simpa using this)
      have h5 := h1.symm.trans h4
      injection h5 with h5 _
      rw [h5] at hg
      simp [ownOf, Value.ownBlock] at hg
      exact .inr (by omega)

/-- A writer of the reference. -/
structure RWr (w : World) (b : Nat) (sv : Value) (l : List Bool) : Prop where
  c0 : w.cell? ⟨b, 0, none⟩ = some sv
  f0 : w.frozen? ⟨b, 0, none⟩ = false
  row : Row w sv (l.map fun b => if b then (49 : UInt8) else 48)
  apart : b ∉ ownOf sv
theorem RWr.lt {w : World} {b : Nat} {sv : Value} {l : List Bool} (h : RWr w b sv l) : b < w.heap.size := World.block_lt_of_cell? _ _ h.c0
theorem RWr.only {S : List Nat} {w w' : World} {b : Nat} {sv : Value} {l : List Bool} (h : RWr w b sv l) (k : Only S w w') (hb : b ∉ S) (hd : ∀ g, g ∈ ownOf sv → g ∉ S) : RWr w' b sv l :=
  ⟨k.cell h.c0 hb, (k.frozen h.lt hb).trans h.f0, h.row.only k hd, h.apart⟩
structure RPut (w w' : World) (b : Nat) (sv sv' : Value) (l : List Bool) : Prop where
  wr : RWr w' b sv' l
  own : ∀ g, g ∈ ownOf sv' → g ∈ ownOf sv ∨ w.heap.size ≤ g
  only : Only (b :: ownOf sv) w w'

theorem bitsOf_take (n v i : Nat) (h : i < n) : (bitsOf n v).take (i + 1) = (bitsOf n v).take i ++ [v.testBit (n - 1 - i)] := by
  rw [List.take_succ_eq_append_getElem (by simpa using h)]
  simp [bitsOf]
def chB (v t : Nat) : UInt8 := if v.testBit t then 49 else 48
theorem char_num (v t : Nat) (hv : v < 2 ^ 64) : IntKind.u64.wrap (48 + bits .and .u64 ((v : Int) / 2 ^ t) 1) % 256 = (((chB v t).toNat : Nat) : Int) := by
  have e : ((v : Int) / 2 ^ t) = ((v / 2 ^ t : Nat) : Int) := by rw [Int.natCast_ediv, Int.natCast_pow]; rfl
  have h : v / 2 ^ t < 2 ^ 64 := Nat.lt_of_le_of_lt (Nat.div_le_self _ _) hv
  have h4 : (2 : Nat) ^ 64 = 18446744073709551616 := by decide
  rw [e, show (1 : Int) = ((1 : Nat) : Int) from rfl, u64_and_nat _ _ (by omega) (by omega), nat_mask1, ← Nat.toNat_testBit]
  unfold chB
  cases v.testBit t <;> rfl

/-- A character more, stored back into the writer. -/
theorem rput_step {w wr w2 : World} {b : Nat} {sv sv' sv2 : Value} {l l' : List Bool} {cs : List UInt8} (P : RPut w wr b sv sv' l) (hb : b < wr.heap.size) (b0 : w2.cell? ⟨b, 0, none⟩ = some sv') (d0 : w2.frozen? ⟨b, 0, none⟩ = false)
    (row : Row w2 sv2 cs) (ob : Only (b :: ownOf sv') wr w2) (own : ∀ g, g ∈ ownOf sv2 → g ∈ ownOf sv' ∨ wr.heap.size ≤ g) (hl : l'.map (fun b => if b then (49 : UInt8) else 48) = cs) : RPut w (w2.setCell ⟨b, 0, none⟩ sv2) b sv sv2 l' := by
  subst hl
  have hap : b ∉ ownOf sv2 := fun h => by rcases own b h with e | e; exact P.wr.apart e; omega
  have o2 : Only [b] w2 (w2.setCell ⟨b, 0, none⟩ sv2) := (Only.refl [b] w2).setCell (p := ⟨b, 0, none⟩) (.inl (List.mem_singleton.2 rfl)) _
  have ow : ∀ g, g ∈ ownOf sv' → g ∈ ownOf sv ∨ w.heap.size ≤ g := P.own
  have hsz := P.only.size
  refine ⟨⟨World.cell?_setCell_same _ _ _ b0, (World.frozen?_setCell _ _ _ _).trans d0, row.only o2 (fun g hg e => hap (List.mem_singleton.1 e ▸ hg)), hap⟩, fun g hg => ?_, ?_⟩
  · rcases own g hg with e | e
    · exact ow g e
    · exact .inr (by omega)
  · refine (P.only.trans2 ob (fun x hx => ?_)).trans2 o2 (fun x hx => .inl (by rw [List.mem_singleton.1 hx]; exact List.mem_cons_self))
    rcases List.mem_cons.1 hx with e | e
    · exact .inl (by rw [e]; exact List.mem_cons_self)
    · rcases ow x e with e | e
      · exact .inl (List.mem_cons_of_mem _ e)
      · exact .inr e

set_option maxHeartbeats 1000000 in
theorem rput_yes (b : Nat) (sv : Value) (l : List Bool) (n v : Nat) (w : World) (h : RWr w b sv l) (hn : n ≤ 64) (hv : v < 2 ^ n) (hsz : l.length + n ≤ 140737488355328) :
    Calls Tryd.prog 13 #[.pointer (some ⟨b, 0, none⟩), .int .i64 n, .int .u64 v] w fun e w' => e = .returned (.int .i64 0) ∧ ∃ sv', RPut w w' b sv sv' (l ++ bitsOf n v) := by
  have H := hid h
  have hd : ((v : Int) / 2 ^ n != 0) = false := by
    have e : (v : Int) / 2 ^ n = ((v / 2 ^ n : Nat) : Int) := by rw [Int.natCast_ediv, Int.natCast_pow]; rfl
    rw [e, Nat.div_eq_of_lt hv]; rfl
  have hv64 := Nat.lt_of_lt_of_le hv (pow_le64 hn)
  have HV := hid hv64
  clear h hv hv64
  have hcase : (n : Int) < 64 ∨ (64 : Int) ≤ (n : Int) := by omega
  rcases hcase with hlt | hlt
  all_goals
    go_enter Tryd.func13, Tryd.ntmps13
    go_wp2_with fail
    go_loopg [7] n (fun g i wr => i = .int .i64 ((g : Int) - 1) ∧ ∃ sv', g ≤ n ∧ RPut w wr b sv sv' (l ++ (bitsOf n v).take (n - g)))
    case atStart => exact ⟨rfl, sv, Nat.le_refl _, by rw [Nat.sub_self, List.take_zero, List.append_nil]; exact ⟨H.out, fun g hg => .inl hg, Only.refl _ _⟩⟩
    case round =>
      obtain ⟨rfl, sv', hgn, hP⟩ := hrel
      have P := hid hP
      clear hP
      by_cases hg : gk = 0
      · subst hg
        go_wp2_with fail
        go_ret
        refine ⟨rfl, sv', ?_⟩
        have := P.out
        rw [Nat.sub_zero, List.take_of_length_le (by simp)] at this
        exact this
      · obtain ⟨t, rfl⟩ : ∃ t, gk = t + 1 := ⟨gk - 1, by omega⟩
        rw [show ((t + 1 : Nat) : Int) - 1 = (t : Int) from by omega]
        have ht : (t : Int) < 64 := by omega
        have c0 := P.out.wr.c0
        have f0 := P.out.wr.f0
        have hsl := hid P.out.wr.row.lt
        have hbl := P.out.wr.lt
        have eX := char_num v t HV.out
        obtain ⟨X, hX⟩ : ∃ X : Int, X = IntKind.u64.wrap (48 + bits .and .u64 ((v : Int) / 2 ^ t) 1) % 256 := ⟨_, rfl⟩
        have RP := P.out.wr.only ((Only.refl [] wr).alloc (.cells #[.int .u8 (IntKind.u64.wrap (48 + bits .and .u64 ((v : Int) / 2 ^ t) 1) % 256)] 5)) (by simp) (by simp)
        have hcl : (l ++ (bitsOf n v).take (n - (t + 1))).length = l.length + (n - (t + 1)) := by simp
        obtain ⟨sv2, w2, hrun, hrow, honly, hown⟩ := run_append_bytes (wr.alloc (.cells #[.int .u8 (IntKind.u64.wrap (48 + bits .and .u64 ((v : Int) / 2 ^ t) 1) % 256)] 5)) 51 sv' _ RP.row ⟨wr.heap.size, 0, none⟩ 1 [chB v t] (by simp) (fun j u hj => by
          have hj0 : j = 0 := by have := (List.getElem?_eq_some_iff.1 hj).1; simp at this; omega
          subst hj0
          simp only [List.map_cons, List.map_nil, List.getElem?_cons_zero, Option.some.injEq] at hj
          rw [← hj, addr_add, World.cell?_alloc_new]
          simp [byteV, eX]) (by simp; omega)
        obtain ⟨a2, N2, c2, rfl⟩ : ∃ a2 N2 c2, sv2 = .slice a2 N2 c2 := by obtain ⟨a2, c2, h, _⟩ := hrow.form; exact ⟨a2, _, c2, h⟩
        have b0 : w2.cell? ⟨b, 0, none⟩ = some sv' := honly.cell RP.c0 P.out.wr.apart
        have d0 : w2.frozen? ⟨b, 0, none⟩ = false := (honly.frozen (by simp; omega) P.out.wr.apart).trans RP.f0
        have Hrow := hid hrow
        have Honly := hid honly
        have Hown := hid hown
        have RP' := hid RP
        clear eX hX hcl hrow honly hown RP
        go_wp2_with (at_builtin; refine Lib.wpList_append_run _ rfl _ _ _ _ rfl _ _ rfl rfl _ _ hrun ?_)
        go_roundg t
        case measure => omega
        case rel =>
          refine ⟨rfl, .slice a2 N2 c2, by omega, ?_⟩
          have ob : Only (b :: ownOf sv') wr w2 := (((Only.refl (b :: ownOf sv') wr).alloc _).trans2 Honly.out (fun x hx => .inl (List.mem_cons_of_mem _ hx)))
          have hown2 := fun g hg => Hown.out g hg
          have hb2 : b < wr.heap.size := hbl
          exact rput_step P.out hbl b0 d0 Hrow.out ob (fun g hg => by rcases hown2 g hg with e | e; exact .inl e; exact .inr (by simp at e; omega)) (by
            rw [show n - t = n - (t + 1) + 1 from by omega, bitsOf_take _ _ _ (by omega), show n - 1 - (n - (t + 1)) = t from by omega, ← List.append_assoc, List.map_append]; rfl)

set_option maxHeartbeats 400000 in
theorem rput_range (b : Nat) (n : Int) (v : Nat) (w : World) (h : n < 0 ∨ 64 < n) :
    Calls Tryd.prog 13 #[.pointer (some ⟨b, 0, none⟩), .int .i64 n, .int .u64 v] w fun e w' => e = .returned (.int .i64 3) ∧ w = w' := by
  rcases h with h | h
  · go_enter Tryd.func13, Tryd.ntmps13
    go_wp2
    go_ret
    exact ⟨rfl, rfl⟩
  · have h' : 0 ≤ n := by omega
    go_enter Tryd.func13, Tryd.ntmps13
    go_wp2
    go_ret
    exact ⟨rfl, rfl⟩
set_option maxHeartbeats 400000 in
theorem rput_arg (b : Nat) (n v : Nat) (w : World) (hn : n < 64) (hv : 2 ^ n ≤ v) :
    Calls Tryd.prog 13 #[.pointer (some ⟨b, 0, none⟩), .int .i64 n, .int .u64 v] w fun e w' => e = .returned (.int .i64 2) ∧ w = w' := by
  have hd : ((v : Int) / 2 ^ n != 0) = true := by
    have e : (v : Int) / 2 ^ n = ((v / 2 ^ n : Nat) : Int) := by rw [Int.natCast_ediv, Int.natCast_pow]; rfl
    have : 0 < v / 2 ^ n := Nat.div_pos hv (Nat.pow_pos (by omega))
    rw [e, bne_iff_ne]; omega
  have hn' : (n : Int) < 64 := by omega
  clear hv
  go_enter Tryd.func13, Tryd.ntmps13
  go_wp2
  go_ret
  exact ⟨rfl, rfl⟩
theorem rput_any (b : Nat) (sv : Value) (l : List Bool) (n : Int) (v : Nat) (w : World) (h : RWr w b sv l) (hsz : l.length + 64 ≤ 140737488355328) (hv : v < 2 ^ 64) :
    Calls Tryd.prog 13 #[.pointer (some ⟨b, 0, none⟩), .int .i64 n, .int .u64 v] w fun e w' => e = .returned (.int .i64 (wrP l n v).1) ∧ ∃ sv', RPut w w' b sv sv' (wrP l n v).2 := by
  have same : RPut w w b sv sv l := ⟨h, fun g hg => .inl hg, Only.refl _ _⟩
  unfold wrP
  by_cases h1 : n < 0 ∨ 64 < n
  · rw [if_pos h1]
    exact (rput_range b n v w h1).mono fun e w' ⟨he, hw⟩ => ⟨he, sv, hw ▸ same⟩
  · rw [if_neg h1]
    obtain ⟨k, rfl⟩ := Int.eq_ofNat_of_zero_le (show 0 ≤ n by omega)
    rw [Int.toNat_natCast]
    by_cases h2 : 2 ^ k ≤ v
    · rw [if_pos h2]
      have hk : k < 64 := by
        by_cases e : k = 64
        · subst e; omega
        · omega
      exact (rput_arg b k v w hk h2).mono fun e w' ⟨he, hw⟩ => ⟨he, sv, hw ▸ same⟩
    · rw [if_neg h2]
      exact rput_yes b sv l k v w h (by omega) (by omega) (by omega)
set_option maxHeartbeats 400000 in
theorem rwrite_any (w : World) :
    Calls Tryd.prog 11 #[] w fun e w' => e = .returned (.pointer (some ⟨w.heap.size, 0, none⟩)) ∧ RWr w' w.heap.size (.slice none 0 0) [] ∧ Only [] w w' := by
  go_enter Tryd.func11, Tryd.ntmps11
  go_wp2
  go_ret
  exact ⟨rfl, ⟨by simp, by simp, ⟨rfl, .inl ⟨rfl, rfl⟩⟩, by simp [ownOf, Value.ownBlock]⟩, (Only.refl _ _).alloc _⟩
set_option maxHeartbeats 400000 in
theorem rbits_any (b : Nat) (sv : Value) (l : List Bool) (w : World) (h : RWr w b sv l) :
    Calls Tryd.prog 19 #[.pointer (some ⟨b, 0, none⟩)] w fun e w' => e = .returned (.string (chars l)) ∧ w = w' := by
  have C := conv_row h.row
  obtain ⟨a, c, rfl, hc⟩ := h.row.form
  have c0 := h.c0
  rw [show (⟨(l.map fun b => if b then (49 : UInt8) else 48).toArray⟩ : ByteArray) = chars l from rfl] at C
  generalize chars l = cl at *
  rw [List.length_map] at c0 C
  clear h hc
  go_enter Tryd.func19, Tryd.ntmps19
  go_wp2
  go_ret
  exact ⟨rfl, rfl⟩
end Go.Proofs.YtdkmeldcpamnnaaDoor

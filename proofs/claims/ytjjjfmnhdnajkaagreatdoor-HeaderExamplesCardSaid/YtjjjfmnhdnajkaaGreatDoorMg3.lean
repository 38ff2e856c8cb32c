/- A writer of package bits; 'add', which appends bytes that are whole. -/
/- 'add' of a writer: bytes that are whole are appended. -/
import Derived.Test.YtjjjfmnhdnajkaaGreatDoorGrow
import Derived.Test.YtjjjfmnhdnajkaaGreatDoorMg1
import Derived.Laws.CopyOwn
import Derived.RegionTactic
import Derived.ChangeAlike
import Derived.Deep.QuietTactic
import Derived.BigQuiet
section
set_option maxRecDepth 20000
namespace Go.Proofs.YtjjjfmnhdnajkaaGreatDoor
open Go.RowKit
set_option linter.unusedVariables false

def byteV (x : UInt8) : Value := .int .u8 x.toNat
def ownOf (v : Value) : List Nat := match v.ownBlock with
  | some g => [g]
  | none => []

/-- sv is a slice of the bytes bs, which nobody else holds. -/
def Row (w : World) (sv : Value) (bs : List UInt8) : Prop := w.ownsRow 0 5 1 sv bs.length (bs.map byteV)

structure Wr (w : World) (b : Nat) (sv : Value) (l : List Bool) : Prop where
  c0 : w.cell? ⟨b, 0, none⟩ = some sv
  c1 : w.cell? ⟨b, 1, none⟩ = some (.int .u8 (byteL l (l.length / 8)))
  c2 : w.cell? ⟨b, 2, none⟩ = some (.int .i64 (l.length % 8 : Nat))
  f0 : w.frozen? ⟨b, 0, none⟩ = false
  f1 : w.frozen? ⟨b, 1, none⟩ = false
  f2 : w.frozen? ⟨b, 2, none⟩ = false
  row : Row w sv (packN l (l.length / 8))
  apart : b ∉ ownOf sv
  sz : l.length ≤ 281474976710656

theorem Row.lt {w : World} {sv : Value} {bs : List UInt8} (h : Row w sv bs) : ∀ g, g ∈ ownOf sv → g < w.heap.size := by
  intro g hg
  rcases h.2 with ⟨rfl, _⟩ | ⟨g', cap, cur, rfl, _, hh, _⟩
  · simp [ownOf, Value.ownBlock] at hg
  · simp [ownOf, Value.ownBlock] at hg
    subst hg
    exact (Array.getElem?_eq_some_iff.1 hh).1
theorem Row.only {S : List Nat} {w w' : World} {sv : Value} {bs : List UInt8} (h : Row w sv bs) (k : Only S w w') (hd : ∀ g, g ∈ ownOf sv → g ∉ S) : Row w' sv bs := by
  refine ⟨h.1, ?_⟩
  rcases h.2 with ⟨rfl, h0⟩ | ⟨g', cap, cur, rfl, hb, hh, r⟩
  · exact .inl ⟨rfl, h0⟩
  · exact .inr ⟨g', cap, cur, rfl, hb, by rw [k.block g' (Array.getElem?_eq_some_iff.1 hh).1 (hd g' (by simp [ownOf, Value.ownBlock]))]; exact hh, r⟩
theorem Wr.lt {w : World} {b : Nat} {sv : Value} {l : List Bool} (h : Wr w b sv l) : b < w.heap.size := World.block_lt_of_cell? _ _ h.c0
theorem Wr.only {S : List Nat} {w w' : World} {b : Nat} {sv : Value} {l : List Bool} (h : Wr w b sv l) (k : Only S w w') (hb : b ∉ S) (hd : ∀ g, g ∈ ownOf sv → g ∉ S) : Wr w' b sv l :=
  ⟨k.cell h.c0 hb, k.cell h.c1 hb, k.cell h.c2 hb, (k.frozen h.lt hb).trans h.f0, (k.frozen h.lt hb).trans h.f1, (k.frozen h.lt hb).trans h.f2, h.row.only k hd, h.apart, h.sz⟩

theorem Only.setRow {S : List Nat} {a w : World} (h : Only S a w) {g : Nat} (hp : g ∈ S ∨ a.heap.size ≤ g) (cs : Array Value) : Only S a (w.setRow g cs) :=
  ⟨h.os, h.tape, h.output, by have := h.size; simp [World.setRow]; omega, fun k hk hs => by
    have e : k ≠ g := fun e => by rcases hp with hp | hp; exact hs (e ▸ hp); omega
    rw [← h.block k hk hs]
    simp only [World.setRow, Array.getElem?_modify]
    rw [if_neg (by omega)]⟩

theorem byteV_one (x : UInt8) : (byteV x).oneCell' = true := rfl

/-- copy of k bytes to the place off of a block that the call may write: what the block holds behind it; nothing else has changed. -/
theorem copy_only {P : Program} {w : World} {ops : Array Oper} {rest : List Oper} {o : Oper} {a : Act} {Q : Exit → Act → World → Prop} (hgd : o.guard = none) (d s : Operand) (dT sT : TypeId)
    (ho : o.op = .call { callee := .builtin .copy, args := #[d, s], argTypes := #[dT, sT] }) (elem : TypeId) (hu : P.underlying dT = some (.slice elem)) (hsz : (P.info? elem).map (·.size) = some 1)
    (g off dLen dCap : Nat) (ad : Addr) (sLen sCap : Nat) (hd : a.eval d = .slice (some ⟨g, off, none⟩) dLen dCap) (hs : a.eval s = .slice (some ad) sLen sCap)
    (cur : List Value) (t : TypeId) (hg : w.heap[g]? = some (.cells cur.toArray t (0, 0))) (cs : List Value) (hn : cs.length = Nat.min sLen dLen)
    (hsrc : ∀ j v, cs[j]? = some v → w.cell? (ad.add j) = some v) (hfit : off + cs.length ≤ cur.length) (h1 : ∀ v ∈ cs, v.oneCell' = true)
    (h : ∀ w', Hid (w'.heap[g]? = some (.cells (splice cur off cs).toArray t (0, 0))) → Hid (Only [g] w w') → wpList P ops Q rest (a.put o.dst (goInt cs.length)) w') : wpList P ops Q (o :: rest) a w := by
  refine wpList_copy_own hgd d s dT sT ho elem hu hsz g off dLen dCap ad sLen sCap hd hs cur.toArray t hg cs hn hsrc (by simpa using hfit) h1 ?_
  exact h _ (show _ = _ by simpa [splice] using setRow_heap w g _ _ t _ hg) (show Only _ _ _ from (Only.refl _ _).setRow (.inl (by simp)) _)
end Go.Proofs.YtjjjfmnhdnajkaaGreatDoor

end
section
set_option maxRecDepth 20000
namespace Go.Proofs.YtjjjfmnhdnajkaaGreatDoor
open Go.RowKit
set_option linter.unusedVariables false

theorem size_u8 : (Tryz.prog.info? 5).map (·.size) = some 1 := by kernel_rfl

/-- What 'add' leaves. -/
structure Added (w w' : World) (b : Nat) (sv sv' : Value) (bs : List UInt8) : Prop where
  cell : w'.cell? ⟨b, 0, none⟩ = some sv'
  other : ∀ o, o ≠ 0 → w'.cell? ⟨b, o, none⟩ = w.cell? ⟨b, o, none⟩
  frozen : ∀ o, w'.frozen? ⟨b, o, none⟩ = w.frozen? ⟨b, o, none⟩
  row : Row w' sv' bs
  own : ∀ g, g ∈ ownOf sv' → g ∈ ownOf sv ∨ w.heap.size ≤ g
  only : Only (b :: ownOf sv) w w'
def AddedIn (w : World) (b : Nat) (sv : Value) (bs : List UInt8) (e : Ending) (w' : World) : Prop := e = .returned (.tuple #[]) ∧ ∃ sv', Added w w' b sv sv' bs

theorem added_set {w : World} {b : Nat} {sv : Value} {bs : List UInt8} (n : Nat) (hc : w.cell? ⟨b, 0, none⟩ = some sv) (hr : Row w sv bs) (hb : b ∉ ownOf sv) : Added w ((w.setCell ⟨b, 0, none⟩ sv).drewN n) b sv sv bs := by
  have ho : Only [b] w (w.setCell ⟨b, 0, none⟩ sv) := (Only.refl [b] w).setCell (p := ⟨b, 0, none⟩) (.inl (List.mem_singleton.2 rfl)) _
  have hd : ∀ g, g ∈ ownOf sv → g ∉ [b] := fun g hg h => hb (List.mem_singleton.1 h ▸ hg)
  have hm : ∀ k, k < w.heap.size → k ∈ [b] → k ∈ b :: ownOf sv := fun k _ hk => by rw [List.mem_singleton.1 hk]; exact List.mem_cons_self
  exact ⟨World.cell?_setCell_same _ _ _ hc, fun o h => World.cell?_setCell_other _ _ _ _ (fun e => h (by injection e with _ e2 _; exact e2.symm)), fun o => World.frozen?_setCell _ _ _ _, hr.only (ho.drewN n) hd, fun g hg => .inl hg, (ho.mono hm).drewN n⟩

set_option maxHeartbeats 400000 in
theorem add_zero (b B : Nat) (sv : Value) (bs : List UInt8) (w : World) (hc : w.cell? ⟨b, 0, none⟩ = some sv) (hf : w.frozen? ⟨b, 0, none⟩ = false) (hr : Row w sv bs) (hb : b ∉ ownOf sv) :
    Calls Tryz.prog 46 #[.pointer (some ⟨b, 0, none⟩), .slice (some ⟨B, 0, none⟩) 0 9] w (AddedIn w b sv bs) := by
  have H := added_set 0 hc hr hb
  rcases hr.2 with ⟨rfl, hn⟩ | ⟨g, cap, cur, rfl, hg, hh, hle, hcap, hsz, hcur⟩
  · have hn' : bs = [] := List.length_eq_zero_iff.1 hn
    clear hr hn
    subst hn'
    go_enter Tryz.func46, Tryz.ntmps46
    go_wp2_with (first | (go_at_call 100; refine (grow_room none 0 0 0 _ (by omega) (by omega) (by omega) (by omega)).mono ?_; rintro e w1 ⟨rfl, rfl⟩) | (refine wpList_copy_nothing rfl _ _ _ _ rfl 5 und_bytes size_u8 _ _ _ _ _ _ rfl rfl rfl ?_))
    go_end0
    exact ⟨rfl, _, H⟩
  · have hc0 : cap ≤ 9223372036854775807 := by unfold maxLen at hcap; omega
    clear hr
    by_cases hl : bs.length < cap
    · go_enter Tryz.func46, Tryz.ntmps46
      go_wp2_with (first | (go_at_call 100; refine (grow_room _ _ _ 0 _ hle hc0 (by omega) (by omega)).mono ?_; rintro e w1 ⟨rfl, rfl⟩) | (refine wpList_copy_nothing rfl _ _ _ _ rfl 5 und_bytes size_u8 _ _ _ _ _ _ rfl rfl (by simp) ?_))
      go_end0
      exact ⟨rfl, _, H⟩
    · obtain rfl : bs.length = cap := by omega
      go_enter Tryz.func46, Tryz.ntmps46
      go_wp2_with (first | (go_at_call 100; refine (grow_room _ _ _ 0 _ hle hc0 (by omega) (by omega)).mono ?_; rintro e w1 ⟨rfl, rfl⟩) | (refine wpList_copy_nothing rfl _ _ _ _ rfl 5 und_bytes size_u8 _ _ _ _ _ _ rfl rfl (by simp) ?_))
      go_end0
      exact ⟨rfl, _, H⟩

theorem take_splice {α : Type} (L : List α) (off : Nat) (cs : List α) (h : off + cs.length ≤ L.length) : (splice L off cs).take (off + cs.length) = L.take off ++ cs := by
  have h1 : (L.take off).length = off := by simp; omega
  unfold splice
  rw [← List.append_assoc, List.take_append_of_le_length (by simp; omega), List.take_of_length_le (by simp; omega)]

theorem addr_add (B j : Nat) : (⟨B, 0, none⟩ : Addr).add j = ⟨B, j, none⟩ := by cases j <;> simp [Addr.add]

/-- There is room: the bytes are copied behind those that are there. -/
theorem added_room {w : World} {b g cap : Nat} {cur : Array Value} {bs cs : List UInt8} {w' : World} {v : Value} (hv : v = .slice (some ⟨g, 0, none⟩) (bs.length + cs.length) cap) (hc : w.cell? ⟨b, 0, none⟩ = some (.slice (some ⟨g, 0, none⟩) bs.length cap))
    (hgb : b ≠ g) (hh : w.heap[g]? = some (.cells cur 5 (0, 0))) (hle : bs.length + cs.length ≤ cap) (hcap : cap ≤ maxLen) (hsz : cur.size = cap * 1) (hcur : cur.toList.take (bs.length * 1) = bs.map byteV)
    (h1 : w'.heap[g]? = some (.cells (splice cur.toList bs.length (cs.map byteV)).toArray 5 (0, 0))) (h2 : Only [g] (w.setCell ⟨b, 0, none⟩ v) w') :
    Added w w' b (.slice (some ⟨g, 0, none⟩) bs.length cap) v (bs ++ cs) := by
  subst hv
  have hb : ∀ o, (⟨b, o, none⟩ : Addr).block ∉ [g] := fun o h => hgb (List.mem_singleton.1 h)
  have hlt : b < (w.setCell ⟨b, 0, none⟩ (.slice (some ⟨g, 0, none⟩) (bs.length + cs.length) cap)).heap.size := by rw [World.size_setCell]; exact World.block_lt_of_cell? _ _ hc
  have hcell : ∀ o, w'.cell? ⟨b, o, none⟩ = (w.setCell ⟨b, 0, none⟩ (.slice (some ⟨g, 0, none⟩) (bs.length + cs.length) cap)).cell? ⟨b, o, none⟩ := fun o => World.cell?_of_block (h2.block b hlt (hb 0))
  have ho : Only [b, g] w (w.setCell ⟨b, 0, none⟩ (.slice (some ⟨g, 0, none⟩) (bs.length + cs.length) cap)) := (Only.refl [b, g] w).setCell (p := ⟨b, 0, none⟩) (.inl (by simp)) _
  refine ⟨?_, fun o h => ?_, fun o => ?_, ?_, fun x hx => .inl (by simpa [ownOf, Value.ownBlock] using hx), ?_⟩
  · rw [hcell]; exact World.cell?_setCell_same _ _ _ hc
  · rw [hcell]; exact World.cell?_setCell_other _ _ _ _ (fun e => h (by injection e with _ e2 _; exact e2.symm))
  · rw [World.frozen?_of_block (h2.block b hlt (hb 0))]; exact World.frozen?_setCell _ _ _ _
  · refine ⟨by simp, .inr ⟨g, cap, _, by simp, Nat.zero_le _, h1, by simpa using hle, hcap, ?_, ?_⟩⟩
    · have := length_splice cur.toList bs.length (cs.map byteV) (by simp; omega)
      simp at this ⊢; omega
    · have := take_splice cur.toList bs.length (cs.map byteV) (by simp; omega)
      simp only [List.length_map] at this
      simp only [List.length_append, Nat.mul_one, this, List.map_append]
      rw [← hcur, Nat.mul_one]
  · exact ho.trans (h2.mono fun k _ hk => by simp at hk; simp [hk])

set_option maxHeartbeats 1000000 in
theorem add_room (b B g cap : Nat) (bs cs : List UInt8) (cur : Array Value) (w : World) (hc : w.cell? ⟨b, 0, none⟩ = some (.slice (some ⟨g, 0, none⟩) bs.length cap)) (hf : w.frozen? ⟨b, 0, none⟩ = false) (hgb : b ≠ g) (hgB : B ≠ g) (hbB : B ≠ b)
    (hh : w.heap[g]? = some (.cells cur 5 (0, 0))) (hle : bs.length + cs.length ≤ cap) (hcap : cap ≤ maxLen) (hsz : cur.size = cap * 1) (hcur : cur.toList.take (bs.length * 1) = bs.map byteV)
    (hpos : 0 < cs.length) (h9 : cs.length ≤ 9) (hsrc : ∀ j v, (cs.map byteV)[j]? = some v → w.cell? ⟨B, j, none⟩ = some v) :
    Calls Tryz.prog 46 #[.pointer (some ⟨b, 0, none⟩), .slice (some ⟨B, 0, none⟩) cs.length 9] w (AddedIn w b (.slice (some ⟨g, 0, none⟩) bs.length cap) (bs ++ cs)) := by
  have H := fun w' h1 h2 => added_room (w' := w') rfl hc hgb hh hle hcap hsz hcur h1 h2
  obtain ⟨k, hk⟩ : ∃ k, k = cs.length := ⟨_, rfl⟩
  obtain ⟨n, hn⟩ : ∃ n, n = bs.length := ⟨_, rfl⟩
  have hcap' : cap ≤ 9223372036854775807 := by unfold maxLen at hcap; omega
  have hg2 : (w.setCell ⟨b, 0, none⟩ (.slice (some ⟨g, 0, none⟩) (n + k) cap)).heap[g]? = some (.cells cur.toList.toArray 5 (0, 0)) := by
    rw [Below.heap_setCell _ _ _ _ (Ne.symm hgb)]; exact hh
  have hsrc2 : ∀ j v, (cs.map byteV)[j]? = some v → (w.setCell ⟨b, 0, none⟩ (.slice (some ⟨g, 0, none⟩) (n + k) cap)).cell? ((⟨B, 0, none⟩ : Addr).add j) = some v := fun j v hj => by
    rw [addr_add, World.cell?_setCell_other _ _ _ _ (by intro e; injection e with e1; exact hbB e1.symm)]
    exact hsrc j v hj
  have hone : ∀ v, v ∈ cs.map byteV → v.oneCell' = true := fun v hv => by obtain ⟨x, _, rfl⟩ := List.mem_map.1 hv; rfl
  have hlen : (cs.map byteV).length = k := by simp [hk]
  have hfit : n + (cs.map byteV).length ≤ cur.toList.length := by simp; omega
  rw [← hk] at hle hpos h9 H ⊢
  rw [← hn] at hc hle H ⊢
  obtain ⟨cv, hcv⟩ : ∃ cv, cv = cs.map byteV := ⟨_, rfl⟩
  rw [← hcv] at hsrc2 hone hlen hfit H
  have H' := hid H
  have G2 := hid hg2
  have S2 := hid hsrc2
  have ON := hid hone
  have LN := hid hlen
  clear H hg2 hsrc2 hone hlen hcv hk hn hh hsrc hcur hsz hcap
  go_enter Tryz.func46, Tryz.ntmps46
  go_wp2_with (first | (go_at_call 100; refine (grow_room _ n cap k _ (by omega) hcap' (by omega) hle).mono ?_; rintro e w1 ⟨rfl, rfl⟩) | (refine copy_only rfl _ _ _ _ rfl 5 und_bytes size_u8 g n k (cap - n) ⟨B, 0, none⟩ k 9 ?_ rfl cur.toList _ G2.out cv ?_ S2.out hfit ON.out ?_))
  case refine_1 =>
    rfl
  case refine_2 => rw [LN.out]; exact (Nat.min_self k).symm
  case refine_3 =>
    intro w' h1 h2
    go_wp2
    go_end0
    exact ⟨rfl, _, H'.out w' h1.out h2.out⟩

/-- There is no room: a new row; then the bytes are copied. -/
theorem added_grow {w w1 w2 w' : World} {b c G : Nat} {sv v : Value} {os : List Value} {zs : Array Value} {bs cs : List UInt8} (hv : v = .slice (some ⟨w.heap.size, 0, none⟩) (bs.length + cs.length) G) (hc : w.cell? ⟨b, 0, none⟩ = some sv)
    (hos : os.take bs.length = bs.map byteV) (hlo : bs.length ≤ os.length) (hlen : os.length + zs.size = G) (hle : bs.length + cs.length ≤ G) (hG : G ≤ maxLen)
    (hw1 : w1 = w.drew.alloc (.cells (os.toArray ++ zs) 5)) (hw2 : w2 = w1.setCell ⟨b, 0, none⟩ v)
    (h1 : w'.heap[w.heap.size]? = some (.cells (splice (os ++ zs.toList) bs.length (cs.map byteV)).toArray 5 (0, 0))) (h2 : Only [w.heap.size] w2 w') :
    Added w w' b sv v (bs ++ cs) := by
  subst hv
  have hlt0 := World.block_lt_of_cell? _ _ hc
  have hlt0 : b < w.heap.size := hlt0
  have hs1 : w1.heap.size = w.heap.size + 1 := by rw [hw1]; simp
  have hs2 : w2.heap.size = w.heap.size + 1 := by rw [hw2, World.size_setCell]; exact hs1
  have o1 : Only [b] w w1 := by rw [hw1]; exact ((Only.refl _ _).drew).alloc _
  have hb : b ∉ [w.heap.size] := fun h => by have := List.mem_singleton.1 h; omega
  have hcell1 : ∀ o, w1.cell? ⟨b, o, none⟩ = w.cell? ⟨b, o, none⟩ := fun o => by rw [hw1]; exact World.cell?_alloc_lt _ _ _ hlt0
  have hfr1 : ∀ o, w1.frozen? ⟨b, o, none⟩ = w.frozen? ⟨b, o, none⟩ := fun o => by rw [hw1]; exact World.frozen?_of_block (Below.heap_alloc _ _ _ hlt0)
  have hcell : ∀ o, w'.cell? ⟨b, o, none⟩ = w2.cell? ⟨b, o, none⟩ := fun o => World.cell?_of_block (h2.block b (by omega) hb)
  refine ⟨?_, fun o h => ?_, fun o => ?_, ?_, fun x hx => .inr (by simp [ownOf, Value.ownBlock] at hx; omega), ?_⟩
  · rw [hcell, hw2]; exact World.cell?_setCell_same _ _ _ ((hcell1 0).trans hc)
  · rw [hcell, hw2, World.cell?_setCell_other _ _ _ _ (fun e => h (by injection e with _ e2 _; exact e2.symm))]; exact hcell1 o
  · rw [World.frozen?_of_block (h2.block b (by omega) hb), hw2, World.frozen?_setCell]; exact hfr1 o
  · refine ⟨by simp, .inr ⟨w.heap.size, G, _, by simp, Nat.zero_le _, h1, by simpa using hle, hG, ?_, ?_⟩⟩
    · have := length_splice (os ++ zs.toList) bs.length (cs.map byteV) (by simp; omega)
      simp at this ⊢; omega
    · have := take_splice (os ++ zs.toList) bs.length (cs.map byteV) (by simp; omega)
      simp only [List.length_map] at this
      simp only [List.length_append, Nat.mul_one, this, List.map_append]
      rw [List.take_append_of_le_length hlo, hos]
  · have o2 : Only (b :: ownOf sv) w w2 := by
      rw [hw2]; exact (o1.mono (fun k _ hk => by rw [List.mem_singleton.1 hk]; exact List.mem_cons_self)).setCell (p := ⟨b, 0, none⟩) (.inl (by simp)) _
    exact o2.trans2 h2 (fun x hx => .inr (by rw [List.mem_singleton.1 hx]; exact Nat.le_refl _))

set_option maxHeartbeats 1000000 in
theorem add_grow (b B : Nat) (base : Option Addr) (cap : Nat) (os : List Value) (bs cs : List UInt8) (w : World) (hc : w.cell? ⟨b, 0, none⟩ = some (.slice base bs.length cap)) (hf : w.frozen? ⟨b, 0, none⟩ = false) (hbB : B ≠ b) (hB : B < w.heap.size)
    (hlc : bs.length ≤ cap) (hroom : cap < bs.length + cs.length) (hbig : bs.length + cs.length ≤ 140737488355328) (hol : os.length = cap) (hnil : base = none → cap = 0) (hcs : ∀ a, base = some a → ∀ j v, os[j]? = some v → w.cell? (a.add j) = some v)
    (hos : os.take bs.length = bs.map byteV) (h9 : cs.length ≤ 9) (hsrc : ∀ j v, (cs.map byteV)[j]? = some v → w.cell? ⟨B, j, none⟩ = some v) :
    Calls Tryz.prog 46 #[.pointer (some ⟨b, 0, none⟩), .slice (some ⟨B, 0, none⟩) cs.length 9] w (AddedIn w b (.slice base bs.length cap) (bs ++ cs)) := by
  have hlt0 := World.block_lt_of_cell? _ _ hc
  have hlt0 : b < w.heap.size := hlt0
  obtain ⟨k, hk⟩ : ∃ k, k = cs.length := ⟨_, rfl⟩
  obtain ⟨n, hn⟩ : ∃ n, n = bs.length := ⟨_, rfl⟩
  have C := grow_grow base n cap k os w (by omega) (by omega) (by omega) hol hnil hcs
  have F := fun (G : Nat) (zs : Array Value) (w' : World) (hle : n + k ≤ G) (hG : G ≤ maxLen) (hlen : os.length + zs.size = G) => added_grow (w := w) (w' := w') (b := b) (c := cap) (G := G) (sv := .slice base bs.length cap) (os := os) (zs := zs) (bs := bs) (cs := cs) rfl hc hos (by omega) hlen (by omega) hG rfl rfl
  have F' := hid F
  rw [← hk] at F' h9 ⊢
  rw [← hn] at hc F' ⊢
  obtain ⟨cv, hcv⟩ : ∃ cv, cv = cs.map byteV := ⟨_, rfl⟩
  rw [← hcv] at hsrc F'
  have LN := hid (show cv.length = k by rw [hcv, hk, List.length_map])
  have ON := hid (show ∀ v, v ∈ cv → v.oneCell' = true from fun v hv => by rw [hcv] at hv; obtain ⟨x, _, rfl⟩ := List.mem_map.1 hv; rfl)
  have SRC := hid hsrc
  have hpos : 0 < k := by omega
  have hcap : n ≤ cap := by omega
  have hnk : n + k ≤ 140737488355328 := by omega
  have OL := hid hol
  have hroom' : cap < n + k := by omega
  clear F hsrc hcv hk hn hos hnil hcs hol hroom hlc hbig
  have C' := hid C
  clear C
  go_enter Tryz.func46, Tryz.ntmps46
  go_wp2_with fail
  refine C'.out.mono ?_
  rintro e w1 ⟨G, hle, hGm, rfl, hw1⟩
  obtain ⟨zs, hzs⟩ : ∃ zs : Array Value, zs = Builtin.zeroCells (Value.int .u8 0).cells (n + k - cap) ++ Builtin.zeroCells (Value.int .u8 0).cells (G - (n + k)) := ⟨_, rfl⟩
  rw [Array.append_assoc, ← hzs] at hw1
  have hz1 : zs.size = G - cap := by
    rw [hzs]; simp [Builtin.zeroCells, Value.cells]; omega
  have hcc : w1.cell? ⟨b, 0, none⟩ = some (.slice base n cap) := by rw [hw1]; exact (World.cell?_alloc_lt _ _ _ hlt0).trans hc
  have hff : w1.frozen? ⟨b, 0, none⟩ = false := by rw [hw1]; exact (World.frozen?_of_block (Below.heap_alloc _ _ _ hlt0)).trans hf
  have hgg : (w1.setCell ⟨b, 0, none⟩ (.slice (some ⟨w.heap.size, 0, none⟩) (n + k) G)).heap[w.heap.size]? = some (.cells (os ++ zs.toList).toArray 5 (0, 0)) := by
    rw [Below.heap_setCell _ _ _ _ (by show w.heap.size ≠ b; omega), hw1]
    show (w.heap.push _)[w.heap.size]? = _
    rw [Array.getElem?_push_size]
    simp
  have hss : ∀ j v, cv[j]? = some v → (w1.setCell ⟨b, 0, none⟩ (.slice (some ⟨w.heap.size, 0, none⟩) (n + k) G)).cell? ((⟨B, 0, none⟩ : Addr).add j) = some v := fun j v hj => by
    rw [addr_add, World.cell?_setCell_other _ _ _ _ (by intro e; injection e with e1; exact hbB e1.symm), hw1]
    exact (World.cell?_alloc_lt _ _ _ hB).trans (SRC.out j v hj)
  have W1 := hid hw1
  have G1 := hid hgg
  have S1 := hid hss
  have Z1 := hid hz1
  have GM := hid hGm
  have hfit : n + cv.length ≤ (os ++ zs.toList).length := by simp [LN.out, OL.out, hz1]; omega
  have hG63 : G ≤ 9223372036854775807 := by unfold maxLen at hGm; omega
  have hnG : n < G := by omega
  clear hw1 hgg hss hz1 hzs hGm hc hf
  obtain ⟨N, hN⟩ : ∃ N, N = w.heap.size := ⟨_, rfl⟩
  rw [← hN] at G1 S1 F' ⊢
  clear hN
  go_wp2_with (refine copy_only rfl _ _ _ _ rfl 5 und_bytes size_u8 N n k (G - n) ⟨B, 0, none⟩ k 9 ?_ rfl (os ++ zs.toList) _ G1.out cv ?_ S1.out hfit ON.out ?_)
  case refine_1 => rfl
  case refine_2 => rw [LN.out]; exact (Nat.min_self k).symm
  case refine_3 =>
    intro w' h1 h2
    go_wp2
    go_end0
    exact ⟨rfl, _, F'.out G zs w' hle GM.out (by rw [OL.out, Z1.out]; omega) h1.out (by have := h2.out; rw [W1.out] at this; exact this)⟩

theorem add_any (b B : Nat) (sv : Value) (bs cs : List UInt8) (w : World) (hc : w.cell? ⟨b, 0, none⟩ = some sv) (hf : w.frozen? ⟨b, 0, none⟩ = false) (hr : Row w sv bs) (hb : b ∉ ownOf sv) (hBb : B ≠ b) (hBs : B ∉ ownOf sv) (hB : B < w.heap.size)
    (hbig : bs.length + cs.length ≤ 140737488355328) (h9 : cs.length ≤ 9) (hsrc : ∀ j v, (cs.map byteV)[j]? = some v → w.cell? ⟨B, j, none⟩ = some v) :
    Calls Tryz.prog 46 #[.pointer (some ⟨b, 0, none⟩), .slice (some ⟨B, 0, none⟩) cs.length 9] w (AddedIn w b sv (bs ++ cs)) := by
  by_cases h0 : cs = []
  · subst h0
    rw [List.append_nil]
    exact add_zero b B sv bs w hc hf hr hb
  · have hpos : 0 < cs.length := List.length_pos_iff.2 h0
    rcases hr.2 with ⟨rfl, hn⟩ | ⟨g, cap, cur, rfl, hg, hh, hle, hcap, hsz, hcur⟩
    · have hn' : bs = [] := List.length_eq_zero_iff.1 hn
      subst hn'
      exact add_grow b B none 0 [] [] cs w hc hf hBb hB (by simp) (by simpa using hpos) hbig rfl (fun _ => rfl) (fun a h => by cases h) (by simp) h9 hsrc
    · have hgb : b ≠ g := fun e => hb (by simp [ownOf, Value.ownBlock, e])
      have hgB : B ≠ g := fun e => hBs (by simp [ownOf, Value.ownBlock, e])
      by_cases hroom : bs.length + cs.length ≤ cap
      · exact add_room b B g cap bs cs cur w hc hf hgb hgB hBb hh hroom hcap hsz hcur hpos h9 hsrc
      · refine add_grow b B (some ⟨g, 0, none⟩) cap cur.toList bs cs w hc hf hBb hB hle (by omega) hbig (by simpa using hsz) (fun h => by cases h) (fun a ha j v hj => ?_) (by simpa using hcur) h9 hsrc
        obtain rfl : (⟨g, 0, none⟩ : Addr) = a := by injection ha
        rw [addr_add]
        simp only [World.cell?, hh]
        simpa using hj
end Go.Proofs.YtjjjfmnhdnajkaaGreatDoor

end

/- The statements' own fits: units of any strings. -/
import Derived.Test.YtfigmjlnjaihnaaLFit
namespace Go.Proofs.Ytfigmjlnjaihnaa
open Go.RowKit
set_option linter.unusedVariables false

/-- Units that may be in a stream, of at most 201 bytes. -/
def Units (us : List ByteArray) : Prop := ∀ u, u ∈ us → mayB u.data.toList = true ∧ u.size ≤ 201
theorem Units.snoc {us : List ByteArray} {u : ByteArray} (h : Units us) (hm : mayB u.data.toList = true) (hs : u.size ≤ 201) : Units (us ++ [u]) := fun v hv => by
  rcases List.mem_append.1 hv with e | e
  · exact h v e
  · rw [List.mem_singleton.1 e]; exact ⟨hm, hs⟩
/-- What fits answers: nothing, or as many units. -/
def FitsE (e : Ending) (w w' : World) (n : Nat) : Prop :=
  e = .returned (.tuple #[.slice none 0 0, .bool false]) ∨ ∃ sv us, e = .returned (.tuple #[sv, .bool true]) ∧ RowS w' sv us ∧ us.length = n ∧ n ≤ 40 ∧ Units us ∧ ∀ g, g ∈ ownOf sv → w.heap.size ≤ g
set_option maxHeartbeats 4000000 in
theorem fits_any (a : Value) (l : List ByteArray) (w : World) (ha : Holds w a l) :
    Calls Try.prog 20 #[a] w fun e w' => FitsE e w w' l.length ∧ Only [] w w' := by
  obtain ⟨a, c, rfl, HA⟩ := ha
  have HA := hid HA
  by_cases hL : 40 < l.length
  · have i1 : (40 : Int) < (l.length : Int) := by omega
    clear hL
    go_enter Try.func20, Try.ntmps20
    go_wp2_with fail
    go_ret2
    exact ⟨.inl rfl, Only.refl _ _⟩
  · have i1 : ¬ (40 : Int) < (l.length : Int) := by omega
    have l40 : l.length ≤ 40 := by omega
    have LL := hid l40
    have nb : (l.length : Int) ≤ 40 := by omega
    clear hL l40
    go_enter Try.func20, Try.ntmps20
    go_wp2_with fail
    go_loopg [4, 5] l.length (fun g out t wr => ∃ (j : Nat) (us : List ByteArray), j + g = l.length ∧ t = .int .i64 j ∧ us.length = j ∧ RowS wr out us ∧ Units us ∧ (∀ g, g ∈ ownOf out → w.heap.size ≤ g) ∧ Only [] w wr)
    case atStart => exact ⟨0, [], by omega, rfl, rfl, ⟨rfl, .inl ⟨rfl, rfl⟩⟩, fun u h => (List.not_mem_nil h).elim, by simp [ownOf, Value.ownBlock], Only.refl _ _⟩
    case round =>
      obtain ⟨j, us, hj, rfl, hl, hR, hU, hF, hO⟩ := hrel
      obtain ⟨ao, co, rfl, hco⟩ := hR.form
      have J := hid hj
      have L := hid hl
      have R := hid hR
      have U := hid hU
      have F := hid hF
      have O := hid hO
      clear hl hR hU hF hO
      have jb : (j : Int) ≤ 40 := by omega
      have j0 : (0 : Int) ≤ (j : Int) := by omega
      by_cases hg : gk = 0
      · obtain rfl : j = l.length := by omega
        have j1 : ¬ (l.length : Int) < (l.length : Int) := by omega
        clear hj hg
        go_wp2_with fail
        go_ret2
        exact ⟨.inr ⟨_, us, rfl, R.out, L.out, LL.out, U.out, F.out⟩, O.out⟩
      · have j1 : (j : Int) < (l.length : Int) := by omega
        obtain ⟨g, rfl⟩ : ∃ g, gk = g + 1 := ⟨gk - 1, by omega⟩
        obtain ⟨s, hls⟩ : ∃ s, l[j]? = some s := ⟨l[j]'(by omega), List.getElem?_eq_getElem _⟩
        obtain ⟨ad, rfl, hx⟩ := HA.out j s hls
        have xc := O.out.cell hx (by simp)
        clear hj hg hls hx
        by_cases h2 : 200 < s.size
        · have h2' : (200 : Int) < (s.size : Int) := by omega
          clear h2
          go_wp2_with fail
          go_ret2
          exact ⟨.inl rfl, O.out⟩
        · have h2' : ¬ (200 : Int) < (s.size : Int) := by omega
          have SZ := hid h2
          have FT := hid (fit_any s wr (by omega))
          clear h2
          go_wp2_with fail
          refine FT.out.mono ?_
          rintro e w2 ⟨u, rfl, hm, hsz, ho⟩
          have M := hid hm
          have U2 := hid (U.out.snoc hm (by have := SZ.out; omega))
          obtain ⟨sv2, w3, hrun, hrow, honly, hown⟩ := append_str w2 (.slice ao us.length co) us u (R.out.only ho (by simp)) (by have := L.out; have := LL.out; have := J.out; omega)
          have R2 := hid hrow
          have O2 := hid ((O.out.trans ho).trans2 honly (fun x hx => .inr (F.out x hx)))
          have F2 := hid (show ∀ g, g ∈ ownOf sv2 → w.heap.size ≤ g from fun g hg => by
            rcases hown g hg with e | e
            · exact F.out g e
            · have := O.out.size; have := ho.size; omega)
          clear hm hsz ho hrow honly hown
          go_wp2_with (at_builtin; refine Lib.wpList_append_run _ rfl _ _ _ _ rfl _ _ rfl rfl _ _ hrun ?_)
          go_roundg g
          case measure => omega
          case rel => exact ⟨j + 1, us ++ [u], by have := J.out; omega, by go_num, by rw [List.length_append, L.out]; rfl, R2.out, U2.out, F2.out, O2.out⟩
end Go.Proofs.Ytfigmjlnjaihnaa

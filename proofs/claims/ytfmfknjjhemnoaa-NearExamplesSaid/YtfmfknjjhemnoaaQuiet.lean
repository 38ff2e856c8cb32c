/- A region that draws its order, whose operations and callees turn nothing that was there (callees may make memory): one walk, in the order of the text. -/
import Derived.Test.YtfmfknjjhemnoaaObj
import Derived.Deep.QuietTactic
import Derived.BigQuiet
namespace Go.Proofs.Ytfmfknjjhemnoaa
set_option linter.unusedVariables false
set_option linter.unusedSimpArgs false
open Go.RowKit

/-- The worlds that differ from w in new blocks alone. -/
def OnlyOf (w : World) : Type := { w' : World // Only [] w w' }
def OnlyOf.at {w : World} (x : OnlyOf w) : World := x.1
theorem OnlyOf.only {w : World} (x : OnlyOf w) : Only [] w x.at := x.2
instance OnlyOf.some (w : World) : Nonempty (OnlyOf w) := ⟨⟨w, Only.refl _ _⟩⟩

theorem wp_region_only {P : Program} {id : Nat} {Q : Exit → Act → World → Prop} {a : Act} {w : World} {l : List Oper} (hm : P.follows .mixedOrders = true) (hB : Region.lexB .any l.toArray = true)
    (h : wpQuiet P l.toArray (fun w' => ∃ x : OnlyOf w, w' = x.at) (fun a' => ∀ w', (∃ x : OnlyOf w, w' = x.at) → Q .normal a' w') l a) : (Code.region id l.toArray true).wp P Q a w :=
  wp_region_quiet (C := fun w' => ∃ x : OnlyOf w, w' = x.at) hm hB ⟨⟨_, (Only.refl [] w).drew⟩, rfl⟩ (by simpa using h)

theorem Calls.only_of {P : Program} {f : FuncId} {args : Array Value} {w : World} {x : OnlyOf w} {v : Value} (h : Calls P f args x.at fun e w' => e = .returned v ∧ Only [] x.at w') :
    Calls P f args x.at fun e w'' => e = .returned v ∧ ∃ y : OnlyOf w, w'' = y.at :=
  h.mono fun _ w' ⟨he, ho⟩ => ⟨he, ⟨w', x.only.trans ho⟩, rfl⟩
theorem Calls.only_drew {P : Program} {f : FuncId} {args : Array Value} {w : World} {x : OnlyOf w} {v : Value} (h : Calls P f args x.at fun e w' => e = .returned v ∧ ∃ n, w' = x.at.drewN n) :
    Calls P f args x.at fun e w'' => e = .returned v ∧ ∃ y : OnlyOf w, w'' = y.at :=
  h.mono fun _ w' ⟨he, n, ho⟩ => ⟨he, ⟨w', by rw [ho]; exact x.only.drewN n⟩, rfl⟩
theorem Calls.only_same {P : Program} {f : FuncId} {args : Array Value} {w : World} {x : OnlyOf w} {v : Value} (h : Calls P f args x.at fun e w' => e = .returned v ∧ x.at = w') :
    Calls P f args x.at fun e w'' => e = .returned v ∧ ∃ y : OnlyOf w, w'' = y.at :=
  h.mono fun _ w' ⟨he, ho⟩ => ⟨he, x, ho.symm⟩
end Go.Proofs.Ytfmfknjjhemnoaa

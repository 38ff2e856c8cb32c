/- The laws' helpers: EqualHeader. -/
import Derived.Test.YtojahafmfcfpaaaDoorHlI
import Derived.Test.YtojahafmfcfpaaaDoorHlJ
import Derived.Test.YtojahafmfcfpaaaDoorHlK
namespace Go.Proofs.YtojahafmfcfpaaaDoor
open Go.RowKit
set_option linter.unusedVariables false
set_option linter.unusedSimpArgs false
theorem eqh_dec (x y : HV) (mv kv mv' kv' : Value) (w : World) (h1 : HoldsM w mv x.mods) (h2 : HoldsM w kv x.marks) (h3 : HoldsM w mv' y.mods) (h4 : HoldsM w kv' y.marks) (l1 : x.mods.length ≤ 1000000) (l2 : x.marks.length ≤ 1000000) (l3 : y.mods.length ≤ 1000000) (l4 : y.marks.length ≤ 1000000) :
    Calls Tryd.prog 7 #[hV x mv kv, hV y mv' kv'] w fun e w' => e = .returned (.bool (decide (x = y))) ∧ Only [] w w' := by
  by_cases h : x = y
  · subst h
    rw [decide_eq_true rfl]
    exact eqh_any x mv kv mv' kv' w h1 h2 h3 h4 l1 l2
  · rw [decide_eq_false h]
    by_cases g0 : x.fi = y.fi
    case neg => exact eqh_no_fi x y mv kv mv' kv' w h1 h2 h3 h4 l1 l2 l3 l4  g0
    by_cases g1 : x.intra = y.intra
    case neg => exact eqh_no_intra x y mv kv mv' kv' w h1 h2 h3 h4 l1 l2 l3 l4 g0 g1
    by_cases g2 : x.whole = y.whole
    case neg => exact eqh_no_whole x y mv kv mv' kv' w h1 h2 h3 h4 l1 l2 l3 l4 g0 g1 g2
    by_cases g3 : x.pps = y.pps
    case neg => exact eqh_no_pps x y mv kv mv' kv' w h1 h2 h3 h4 l1 l2 l3 l4 g0 g1 g2 g3
    by_cases g4 : x.fr = y.fr
    case neg => exact eqh_no_fr x y mv kv mv' kv' w h1 h2 h3 h4 l1 l2 l3 l4 g0 g1 g2 g3 g4
    by_cases g5 : x.idr = y.idr
    case neg => exact eqh_no_idr x y mv kv mv' kv' w h1 h2 h3 h4 l1 l2 l3 l4 g0 g1 g2 g3 g4 g5
    by_cases g6 : x.poc = y.poc
    case neg => exact eqh_no_poc x y mv kv mv' kv' w h1 h2 h3 h4 l1 l2 l3 l4 g0 g1 g2 g3 g4 g5 g6
    by_cases g7 : x.over = y.over
    case neg => exact eqh_no_over x y mv kv mv' kv' w h1 h2 h3 h4 l1 l2 l3 l4 g0 g1 g2 g3 g4 g5 g6 g7
    by_cases g8 : x.refs = y.refs
    case neg => exact eqh_no_refs x y mv kv mv' kv' w h1 h2 h3 h4 l1 l2 l3 l4 g0 g1 g2 g3 g4 g5 g6 g7 g8
    by_cases g9 : x.listed = y.listed
    case neg => exact eqh_no_listed x y mv kv mv' kv' w h1 h2 h3 h4 l1 l2 l3 l4 g0 g1 g2 g3 g4 g5 g6 g7 g8 g9
    by_cases g10 : x.mods = y.mods
    case neg => exact eqh_no_mods x y mv kv mv' kv' w h1 h2 h3 h4 l1 l2 l3 l4 g0 g1 g2 g3 g4 g5 g6 g7 g8 g9 g10
    by_cases g11 : x.f0 = y.f0 ∧ x.f1 = y.f1
    case neg => exact eqh_no_f0_f1 x y mv kv mv' kv' w h1 h2 h3 h4 l1 l2 l3 l4 g0 g1 g2 g3 g4 g5 g6 g7 g8 g9 g10 g11
    by_cases g12 : x.ad = y.ad
    case neg => exact eqh_no_ad x y mv kv mv' kv' w h1 h2 h3 h4 l1 l2 l3 l4 g0 g1 g2 g3 g4 g5 g6 g7 g8 g9 g10 g11.1 g11.2 g12
    by_cases g13 : x.marks = y.marks
    case neg => exact eqh_no_marks x y mv kv mv' kv' w h1 h2 h3 h4 l1 l2 l3 l4 g0 g1 g2 g3 g4 g5 g6 g7 g8 g9 g10 g11.1 g11.2 g12 g13
    by_cases g14 : x.ini = y.ini
    case neg => exact eqh_no_ini x y mv kv mv' kv' w h1 h2 h3 h4 l1 l2 l3 l4 g0 g1 g2 g3 g4 g5 g6 g7 g8 g9 g10 g11.1 g11.2 g12 g13 g14
    by_cases g15 : x.qp = y.qp
    case neg => exact eqh_no_qp x y mv kv mv' kv' w h1 h2 h3 h4 l1 l2 l3 l4 g0 g1 g2 g3 g4 g5 g6 g7 g8 g9 g10 g11.1 g11.2 g12 g13 g14 g15
    by_cases g16 : x.fil = y.fil
    case neg => exact eqh_no_fil x y mv kv mv' kv' w h1 h2 h3 h4 l1 l2 l3 l4 g0 g1 g2 g3 g4 g5 g6 g7 g8 g9 g10 g11.1 g11.2 g12 g13 g14 g15 g16
    by_cases g17 : x.a = y.a
    case neg => exact eqh_no_a x y mv kv mv' kv' w h1 h2 h3 h4 l1 l2 l3 l4 g0 g1 g2 g3 g4 g5 g6 g7 g8 g9 g10 g11.1 g11.2 g12 g13 g14 g15 g16 g17
    by_cases g18 : x.b = y.b
    case neg => exact eqh_no_b x y mv kv mv' kv' w h1 h2 h3 h4 l1 l2 l3 l4 g0 g1 g2 g3 g4 g5 g6 g7 g8 g9 g10 g11.1 g11.2 g12 g13 g14 g15 g16 g17 g18
    exact absurd ((HV.eq_iff x y).2 ⟨g0, g1, g2, g3, g4, g5, g6, g7, g8, g9, g10, g11.1, g11.2, g12, g13, g14, g15, g16, g17, g18⟩) h
end Go.Proofs.YtojahafmfcfpaaaDoor

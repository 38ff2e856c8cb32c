/- The program's Equal. -/
import Derived.Test.YtpmmnjeomdjakaaDoorMmb8
import Derived.Test.YtpmmnjeomdjakaaDoorMqL
import Derived.Test.YtpmmnjeomdjakaaDoorMqV
namespace Go.Proofs.YtpmmnjeomdjakaaDoor
open Go.RowKit
set_option linter.unusedVariables false
set_option linter.unusedSimpArgs false

theorem equal13_any (x y : MV) (ra va ba rb vb bb : Value) (w : World) (hV : MbV w) (hx : MAt w x ra va ba) (hy : MAt w y rb vb bb) (lx : MLen x) (ly : MLen y) :
    Calls Tryd.prog 15 #[mV x ra va ba, mV y rb vb bb] w fun e w' => e = .returned (.bool (decide (x = y))) ∧ Only [] w w' := by
  by_cases h : x = y
  · subst h
    rw [decide_eq_true rfl]
    exact peq_same x ra va ba rb vb bb w hx hy lx
  · rw [decide_eq_false h]
    by_cases n0 : ¬ x.kind = y.kind
    · exact peq_no_kind x y ra va ba rb vb bb w hx hy lx ly  n0
    have e0 := Decidable.not_not.1 n0
    by_cases n1 : ¬ x.mode = y.mode
    · exact peq_no_mode x y ra va ba rb vb bb w hx hy lx ly e0 n1
    have e1 := Decidable.not_not.1 n1
    by_cases n2 : ¬ x.chroma = y.chroma
    · exact peq_no_chroma x y ra va ba rb vb bb w hx hy lx ly e0 e1 n2
    have e2 := Decidable.not_not.1 n2
    by_cases n3 : ¬ x.pr = y.pr
    · exact peq_no_pr x y ra va ba rb vb bb w hx hy lx ly e0 e1 e2 n3
    have e3 := Decidable.not_not.1 n3
    by_cases n4 : ¬ x.sb = y.sb
    · exact peq_no_sb x y ra va ba rb vb bb w hx hy lx ly e0 e1 e2 e3 n4
    have e4 := Decidable.not_not.1 n4
    by_cases n5 : ¬ x.cbp = y.cbp
    · exact peq_no_cbp x y ra va ba rb vb bb w hx hy lx ly e0 e1 e2 e3 e4 n5
    have e5 := Decidable.not_not.1 n5
    by_cases n6 : ¬ x.qp = y.qp
    · exact peq_no_qp x y ra va ba rb vb bb w hx hy lx ly e0 e1 e2 e3 e4 e5 n6
    have e6 := Decidable.not_not.1 n6
    by_cases n7 : ¬ x.pcm = y.pcm
    · exact peq_no_pcm x y ra va ba rb vb bb w hx hy lx ly e0 e1 e2 e3 e4 e5 e6 n7
    have e7 := Decidable.not_not.1 n7
    by_cases n8 : ¬ x.refs = y.refs
    · exact peq_no_refs x y ra va ba rb vb bb w hx hy lx ly e0 e1 e2 e3 e4 e5 e6 e7 n8
    have e8 := Decidable.not_not.1 n8
    by_cases n9 : ¬ x.mvds = y.mvds
    · exact peq_no_mvds x y ra va ba rb vb bb w hx hy lx ly e0 e1 e2 e3 e4 e5 e6 e7 e8 n9
    have e9 := Decidable.not_not.1 n9
    by_cases n10 : ¬ x.blocks = y.blocks
    · exact peq_no_blocks x y ra va ba rb vb bb w hx hy lx ly e0 e1 e2 e3 e4 e5 e6 e7 e8 e9 n10
    have e10 := Decidable.not_not.1 n10
    exact absurd (MV.ext e0 e1 e2 e3 e4 e8 e9 e5 e6 e10 e7) h
end Go.Proofs.YtpmmnjeomdjakaaDoor

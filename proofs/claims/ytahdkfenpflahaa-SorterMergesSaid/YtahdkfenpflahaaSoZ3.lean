/- The statement SorterMerges, out of its walk: any runs, sorted or not, of any rows, are merged by any keys whose columns they have as the page says; of at most 60 rows. For every input. -/
import Derived.Test.YtahdkfenpflahaaSoYx
import Derived.Test.YtahdkfenpflahaaSorterMergesFrame
namespace Go.Proofs.Ytahdkfenpflahaa
set_option linter.unusedVariables false
open Go.ChangeShapes Go.WideShapes Go.ChangeAt Go.RowKit Go.Joins

theorem sorterMerges_holds : Rows.SorterMergesSaid := sorterMergesFrame.of_walk (by
  intro H enc W base v0 v1 d0 d1 p0 p1 k0 h0 k1 h1
  obtain ⟨A, n, c, gs, rfl, hg, hs⟩ := open_runsT k0 h0
  obtain ⟨A3, n3, c3, ks, rfl, hk⟩ := open_keysT k1 h1
  exact sorterMerges_w A A3 n c n3 c3 gs ks W hg hk hs)
end Go.Proofs.Ytahdkfenpflahaa

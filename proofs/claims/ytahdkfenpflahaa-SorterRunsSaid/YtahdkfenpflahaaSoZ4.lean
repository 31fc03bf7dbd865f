/- The statement SorterRuns, out of its walk: any rows are cut into runs as the page says; these, merged, are the rows, sorted, whatever the room; of at most 60 rows. For every input. -/
import Derived.Test.YtahdkfenpflahaaSpF
import Derived.Test.YtahdkfenpflahaaSorterRunsFrame
namespace Go.Proofs.Ytahdkfenpflahaa
set_option linter.unusedVariables false
open Go.ChangeShapes Go.WideShapes Go.ChangeAt Go.RowKit Go.Joins

theorem sorterRuns_holds : Rows.SorterRunsSaid := sorterRunsFrame.of_walk (by
  intro H enc W base v0 v1 v2 d0 d1 d2 p0 p1 p2 k0 h0 k1 h1 k2 h2
  obtain ⟨A, n, c, ps, rfl, hp, hs⟩ := open_rowsT k0 h0
  obtain ⟨A3, n3, c3, ks, rfl, hk⟩ := open_keysT k1 h1
  obtain ⟨room, rfl, _⟩ := open_int Try.underlying3 k2 h2
  exact sorterRuns_w A A3 n c n3 c3 room ps ks W hp hk hs)
end Go.Proofs.Ytahdkfenpflahaa

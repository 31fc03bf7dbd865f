/- The statement SorterSorts, out of its walk: any rows, sorted by any keys whose columns they have, are as the page says: none stands ahead of the one before it; they are the same bag, however they came; of at most 60 rows. For every input. -/
import Derived.Test.YtahdkfenpflahaaSpG
import Derived.Test.YtahdkfenpflahaaSoKr
import Derived.Test.YtahdkfenpflahaaSorterSortsFrame
namespace Go.Proofs.Ytahdkfenpflahaa
set_option linter.unusedVariables false
open Go.ChangeShapes Go.WideShapes Go.ChangeAt Go.RowKit Go.Joins

theorem sorterSorts_holds : Rows.SorterSortsSaid := sorterSortsFrame.of_walk (by
  intro H enc W base v0 v1 v2 d0 d1 d2 p0 p1 p2 k0 h0 k1 h1 k2 h2
  obtain ⟨A, n, c, ps, rfl, hp, hs⟩ := open_rowsT k0 h0
  obtain ⟨A3, n3, c3, ks, rfl, hk⟩ := open_keysT k1 h1
  obtain ⟨turn, rfl, _⟩ := open_int Try.underlying3 k2 h2
  exact sorterSorts_w A A3 n c n3 c3 turn ps ks W hp hk hs)
end Go.Proofs.Ytahdkfenpflahaa

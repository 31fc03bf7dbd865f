/- The statement SorterSays, out of its walk: whether a row stands ahead of another, by any keys, is as the reference says; never both ways. For every input. -/
import Derived.Test.YtahdkfenpflahaaSoK
import Derived.Test.YtahdkfenpflahaaSorterSaysFrame
namespace Go.Proofs.Ytahdkfenpflahaa
set_option linter.unusedVariables false
open Go.ChangeShapes Go.WideShapes Go.ChangeAt Go.RowKit Go.Joins

theorem sorterSays_holds : Rows.SorterSaysSaid := sorterSaysFrame.of_walk (by
  intro H enc W base v0 v1 v2 d0 d1 d2 p0 p1 p2 k0 h0 k1 h1 k2 h2
  obtain ⟨A, n, c, r, rfl, hr, gr⟩ := open_rowS k0 h0
  obtain ⟨A2, n2, c2, s, rfl, hs, gs⟩ := open_rowS k1 h1
  obtain ⟨A3, n3, c3, ks, rfl, hk⟩ := open_keysT k2 h2
  exact sorterSays_w A A2 A3 n c n2 c2 n3 c3 r s ks W hr hs hk gr gs)
end Go.Proofs.Ytahdkfenpflahaa

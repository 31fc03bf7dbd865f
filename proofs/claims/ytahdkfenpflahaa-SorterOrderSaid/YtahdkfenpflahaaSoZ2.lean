/- The statement SorterOrder, out of its walk: any three rows that have the keys' columns stand in one order; just those that are the same are level. For every input. -/
import Derived.Test.YtahdkfenpflahaaSoO
import Derived.Test.YtahdkfenpflahaaSorterOrderFrame
namespace Go.Proofs.Ytahdkfenpflahaa
set_option linter.unusedVariables false
open Go.ChangeShapes Go.WideShapes Go.ChangeAt Go.RowKit Go.Joins

theorem sorterOrder_holds : Rows.SorterOrderSaid := sorterOrderFrame.of_walk (by
  intro H enc W base v0 v1 d0 d1 p0 p1 k0 h0 k1 h1
  obtain ⟨A0, n0, c0, r, A1, n1, c1, s, A2, n2, c2, t, rfl, g0, g1, g2, gr, gs⟩ := open_three k0 h0
  obtain ⟨A3, n3, c3, ks, rfl, hk⟩ := open_keysT k1 h1
  exact sorterOrder_w A0 A1 A2 A3 n0 c0 n1 c1 n2 c2 n3 c3 r s t ks W g0 g1 g2 hk gr gs)
end Go.Proofs.Ytahdkfenpflahaa

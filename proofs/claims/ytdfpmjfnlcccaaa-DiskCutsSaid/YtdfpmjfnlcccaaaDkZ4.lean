/- The statement DiskCuts, out of its walk: an armed disk takes the sectors it still may, cuts a page where its power ends, and holds what it took. For every input. -/
import Derived.Test.YtdfpmjfnlcccaaaDkV
import Derived.Test.YtdfpmjfnlcccaaaDiskCutsFrame
namespace Go.Proofs.Ytdfpmjfnlcccaaa
set_option linter.unusedVariables false
open Go.ChangeShapes Go.WideShapes Go.ChangeAt Go.RowKit Go.Joins
open Go.ChangeMaps (open_string)

theorem diskCuts_holds : Rows.DiskCutsSaid := diskCutsFrame.of_walk (by
  intro H enc W base v0 v1 d0 d1 p0 p1 k0 h0 k1 h1
  obtain ⟨A, n, c, zs, rfl, hn, hc, _, hz, _, _⟩ := open_Ints Try.underlying42 Try.underlying3 (by kernel_rfl) k0 h0
  obtain ⟨m, rfl, _, _, _⟩ := open_int Try.underlying3 k1 h1
  exact diskCuts_w A n c zs m W hz (Nat.le_trans hn hc))
end Go.Proofs.Ytdfpmjfnlcccaaa

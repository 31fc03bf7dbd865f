/- The statement DiskLast, out of its walk: what is written last is what is read, and other sectors stay. For every input. -/
import Derived.Test.YtdfpmjfnlcccaaaDkT
import Derived.Test.YtdfpmjfnlcccaaaDiskLastFrame
namespace Go.Proofs.Ytdfpmjfnlcccaaa
set_option linter.unusedVariables false
open Go.ChangeShapes Go.WideShapes Go.ChangeAt Go.RowKit Go.Joins
open Go.ChangeMaps (open_string)

theorem diskLast_holds : Rows.DiskLastSaid := diskLastFrame.of_walk (by
  intro H enc W base v0 v1 v2 d0 d1 d2 p0 p1 p2 k0 h0 k1 h1 k2 h2
  obtain ⟨a, rfl, _, _, _⟩ := open_int Try.underlying3 k0 h0
  obtain ⟨o, rfl, _, _, _⟩ := open_int Try.underlying3 k1 h1
  obtain ⟨s, rfl, _, _, hs⟩ := open_string Try.underlying9 k2 h2
  exact diskLast_w a o s W hs)
end Go.Proofs.Ytdfpmjfnlcccaaa

/- The statement DiskSays, out of its walk: for any disk that may be, any sector and any bytes, each call of the program answers as the reference's, and what was handed in stays. For every input. -/
import Derived.Test.YtdfpmjfnlcccaaaDkR
import Derived.Test.YtdfpmjfnlcccaaaDkY
import Derived.Test.YtdfpmjfnlcccaaaDiskSaysFrame
namespace Go.Proofs.Ytdfpmjfnlcccaaa
set_option linter.unusedVariables false
open Go.ChangeShapes Go.WideShapes Go.ChangeAt Go.RowKit Go.Joins
open Go.ChangeMaps (open_string)

theorem diskSays_holds : Rows.DiskSaysSaid := diskSaysFrame.of_walk (by
  intro H enc W base v0 v1 v2 v3 d0 d1 d2 d3 p0 p1 p2 p3 k0 h0 k1 h1 k2 h2 k3 h3
  obtain ⟨A, n, c, D, rfl, hD, hl⟩ := open_diskT k0 h0
  obtain ⟨a, rfl, _, _, wa⟩ := open_int Try.underlying3 k1 h1
  obtain ⟨s, rfl, _, _, hs⟩ := open_string Try.underlying9 k2 h2
  obtain ⟨m, rfl, _, _, _⟩ := open_int Try.underlying3 k3 h3
  exact diskSays_w A n c D a s m W hD hl (bounds_i64 wa) hs)
end Go.Proofs.Ytdfpmjfnlcccaaa

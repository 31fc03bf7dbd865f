/- The statement DiskPlays, out of its walk: whatever is done with a disk, one thing behind the other, is answered as the reference answers, and leaves the same disk. For every input. -/
import Derived.Test.YtdfpmjfnlcccaaaDkS
import Derived.Test.YtdfpmjfnlcccaaaDiskPlaysFrame
namespace Go.Proofs.Ytdfpmjfnlcccaaa
set_option linter.unusedVariables false
open Go.ChangeShapes Go.WideShapes Go.ChangeAt Go.RowKit Go.Joins
open Go.ChangeMaps (open_string)

theorem diskPlays_holds : Rows.DiskPlaysSaid := diskPlaysFrame.of_walk (by
  intro H enc W base v0 v1 d0 d1 p0 p1 k0 h0 k1 h1
  obtain ⟨n, rfl, _, _, _⟩ := open_int Try.underlying3 k0 h0
  obtain ⟨A, N, C, l, rfl, hA, hl⟩ := open_actsT k1 h1
  exact diskPlays_w n A N C l W hA hl)
end Go.Proofs.Ytdfpmjfnlcccaaa

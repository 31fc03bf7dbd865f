/- The statement on versions in turn, where what comes in is of bulk at most 1048576. -/
import Derived.Test.YtebamnlknaoehaaVrJ
import Derived.Test.YtebamnlknaoehaaVersionTurnsFrame
namespace Go.Proofs.Ytebamnlknaoehaa
set_option linter.unusedVariables false
open Go.ChangeShapes Go.WideShapes Go.ChangeAt Go.RowKit Go.Joins Go.Deep
open Go.ChangeMaps (open_string)

theorem versionTurns_holds : Rows.VersionTurnsUptoSaid := versionTurnsFrame.of_walk (by
  intro H enc W base v0 d0 p0 k0 h0 hk
  obtain ⟨a, b, c, d, rfl, _, _, _, wd⟩ := open_arr4 Try.underlying45 Try.underlying3 (by kernel_rfl) (by kernel_rfl) k0 h0
  exact turns_w a b c d W (bounds_i64 wd).1)
end Go.Proofs.Ytebamnlknaoehaa

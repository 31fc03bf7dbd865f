/- The statement on the bytes of versions, where what comes in is of bulk at most 1048576. -/
import Derived.Test.YtebamnlknaoehaaVrZ0
import Derived.Test.YtebamnlknaoehaaVersionBytesFrame
namespace Go.Proofs.Ytebamnlknaoehaa
set_option linter.unusedVariables false
open Go.ChangeShapes Go.WideShapes Go.ChangeAt Go.RowKit Go.Joins Go.Deep
open Go.ChangeMaps (open_string)

theorem versionBytes_holds : Rows.VersionBytesUptoSaid := versionBytesFrame.of_walk (by
  intro H enc W base v0 v1 d0 d1 p0 p1 k0 h0 k1 h1 hk
  obtain ⟨s, rfl, rfl, _, _⟩ := open_string Try.underlying9 k1 h1
  have hu := bulk_all hk
  have hs := bulk_str (H := H) s
  simp only [Rows.uptoBulkAll] at hu
  obtain ⟨a, b, c, A, n, k, r, rfl, g1, g2, g3⟩ := open_verT k0 h0 (by omega)
  exact bytes_w a b c A n k r s W g1 g2 g3 (by omega))
end Go.Proofs.Ytebamnlknaoehaa

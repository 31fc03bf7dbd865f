/- The statement that a version is told by its bytes, where what comes in is of bulk at most 1048576. -/
import Derived.Test.YtebamnlknaoehaaVrZ0
import Derived.Test.YtebamnlknaoehaaVrI
import Derived.Test.YtebamnlknaoehaaVersionOneFrame
namespace Go.Proofs.Ytebamnlknaoehaa
set_option linter.unusedVariables false
open Go.ChangeShapes Go.WideShapes Go.ChangeAt Go.RowKit Go.Joins Go.Deep
open Go.ChangeMaps (open_string)

theorem versionOne_holds : Rows.VersionOneUptoSaid := versionOneFrame.of_walk (by
  intro H enc W base v0 v1 v2 d0 d1 d2 p0 p1 p2 k0 h0 k1 h1 k2 h2 hk
  obtain ⟨s, rfl, rfl, _, _⟩ := open_string Try.underlying9 k2 h2
  have hu := bulk_all hk
  have hs := bulk_str (H := H) s
  simp only [Rows.uptoBulkAll] at hu
  obtain ⟨a, b, c, A, n, k, r, rfl, g1, g2, g3⟩ := open_verT k0 h0 (by omega)
  obtain ⟨a2, b2, c2, A2, n2, k2', r2, rfl, f1, f2, f3⟩ := open_verT k1 h1 (by omega)
  exact one_w a b c a2 b2 c2 A A2 n k n2 k2' r r2 s W g1 f1 g2 f2 g3 f3 (by omega))
end Go.Proofs.Ytebamnlknaoehaa

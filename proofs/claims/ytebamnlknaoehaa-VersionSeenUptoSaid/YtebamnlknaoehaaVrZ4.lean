/- The statement on which snapshots see which versions, where what comes in is of bulk at most 1048576. -/
import Derived.Test.YtebamnlknaoehaaVrZ0
import Derived.Test.YtebamnlknaoehaaVrL
import Derived.Test.YtebamnlknaoehaaVersionSeenFrame
namespace Go.Proofs.Ytebamnlknaoehaa
set_option linter.unusedVariables false
open Go.ChangeShapes Go.WideShapes Go.ChangeAt Go.RowKit Go.Joins Go.Deep
open Go.ChangeMaps (open_string)

theorem versionSeen_holds : Rows.VersionSeenUptoSaid := versionSeenFrame.of_walk (by
  intro H enc W base v0 v1 v2 d0 d1 d2 p0 p1 p2 k0 h0 k1 h1 k2 h2 hk
  have hu := bulk_all hk
  simp only [Rows.uptoBulkAll] at hu
  obtain ⟨A, n, c, ps, rfl, g1, g2, g3⟩ := open_heldsT k0 h0 (by omega)
  obtain ⟨s, rfl, _, _, _⟩ := open_int Try.underlying3 k1 h1
  obtain ⟨o, rfl, _, _, _⟩ := open_int Try.underlying3 k2 h2
  exact seen_w A n c s o ps W g1 g2 (fun p hp => (g3 p hp).2.1) (fun p hp v hv => by have := ((g3 p hp).2.2 v hv).2; omega))
end Go.Proofs.Ytebamnlknaoehaa

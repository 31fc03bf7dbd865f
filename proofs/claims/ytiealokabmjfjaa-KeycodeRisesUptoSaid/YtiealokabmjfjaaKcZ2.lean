/- The statement on keys in order: a key rises as its row does, where what comes in is of bulk at most 1048576. -/
import Derived.Test.YtiealokabmjfjaaKcH
import Derived.Test.YtiealokabmjfjaaBulk
import Derived.Test.YtiealokabmjfjaaKeycodeRisesFrame
namespace Go.Proofs.Ytiealokabmjfjaa
set_option linter.unusedVariables false
open Go.ChangeShapes Go.WideShapes Go.ChangeAt Go.RowKit Go.Joins
open Go.ChangeMaps (open_string)

theorem keycodeRises_holds : Rows.KeycodeRisesUptoSaid := keycodeRisesFrame.of_walk (by
  intro H enc W base v0 v1 d0 d1 p0 p1 k0 h0 k1 h1 hk
  have hu := bulk_all hk
  simp only [Rows.uptoBulkAll] at hu
  obtain ⟨A, n, c, r, rfl, g1, g2, g3⟩ := open_rowT k0 h0 (by omega)
  obtain ⟨A2, n2, c2, s, rfl, f1, f2, f3⟩ := open_rowT k1 h1 (by omega)
  exact rises_w A A2 n c n2 c2 r s W g1 f1 g2 f2 g3 f3)
end Go.Proofs.Ytiealokabmjfjaa

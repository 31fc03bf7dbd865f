/- The statement on a row told again from its key, where what comes in is of bulk at most 1048576. -/
import Derived.Test.YtiealokabmjfjaaKcI
import Derived.Test.YtiealokabmjfjaaBulk
import Derived.Test.YtiealokabmjfjaaKeycodeBackFrame
namespace Go.Proofs.Ytiealokabmjfjaa
set_option linter.unusedVariables false
open Go.ChangeShapes Go.WideShapes Go.ChangeAt Go.RowKit Go.Joins
open Go.ChangeMaps (open_string)

theorem keycodeBack_holds : Rows.KeycodeBackUptoSaid := keycodeBackFrame.of_walk (by
  intro H enc W base v0 v1 v2 d0 d1 d2 p0 p1 p2 k0 h0 k1 h1 k2 h2 hk
  have hu := bulk_all hk
  simp only [Rows.uptoBulkAll] at hu
  obtain ⟨A, n, c, r, rfl, g1, g2, g3⟩ := open_rowT k0 h0 (by omega)
  obtain ⟨A2, n2, c2, s, rfl, f1, f2, f3⟩ := open_rowT k1 h1 (by omega)
  obtain ⟨t, rfl, rfl, _, _⟩ := open_string Try.underlying9 k2 h2
  have ht := bulk_str (H := H) t
  exact back_w A A2 n c n2 c2 r s t W g1 f1 g2 f2 g3 f3 (by omega))
end Go.Proofs.Ytiealokabmjfjaa

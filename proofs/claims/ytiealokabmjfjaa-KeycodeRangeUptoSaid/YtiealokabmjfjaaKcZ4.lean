/- The statement on a key's range: a row begins with another one's values just if its key lies in that one's range, where what comes in is of bulk at most 1048576. -/
import Derived.Test.YtiealokabmjfjaaKcK
import Derived.Test.YtiealokabmjfjaaBulk
import Derived.Test.YtiealokabmjfjaaKeycodeRangeFrame
namespace Go.Proofs.Ytiealokabmjfjaa
set_option linter.unusedVariables false
open Go.ChangeShapes Go.WideShapes Go.ChangeAt Go.RowKit Go.Joins
open Go.ChangeMaps (open_string)

theorem keycodeRange_holds : Rows.KeycodeRangeUptoSaid := keycodeRangeFrame.of_walk (by
  intro H enc W base v0 v1 v2 d0 d1 d2 p0 p1 p2 k0 h0 k1 h1 k2 h2 hk
  have hu := bulk_all hk
  simp only [Rows.uptoBulkAll] at hu
  obtain ⟨A, n, c, r, rfl, g1, g2, g3⟩ := open_rowT k0 h0 (by omega)
  obtain ⟨A2, n2, c2, s, rfl, f1, f2, f3⟩ := open_rowT k1 h1 (by omega)
  obtain ⟨A3, n3, c3, t, rfl, e1, e2, e3⟩ := open_rowT k2 h2 (by omega)
  exact range_w A A2 A3 n c n2 c2 n3 c3 r s t W g1 f1 e1 g2 f2 e2 g3 f3 e3)
end Go.Proofs.Ytiealokabmjfjaa

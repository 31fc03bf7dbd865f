/- The statement on the text of a key: what comes after it, where what comes in is of bulk at most 1048576. -/
import Derived.Test.YtiealokabmjfjaaKcH
import Derived.Test.YtiealokabmjfjaaBulk
import Derived.Test.YtiealokabmjfjaaKeycodeAfterFrame
namespace Go.Proofs.Ytiealokabmjfjaa
set_option linter.unusedVariables false
open Go.ChangeShapes Go.WideShapes Go.ChangeAt Go.RowKit Go.Joins
open Go.ChangeMaps (open_string)

theorem keycodeAfter_holds : Rows.KeycodeAfterUptoSaid := keycodeAfterFrame.of_walk (by
  intro H enc W base v0 v1 d0 d1 p0 p1 k0 h0 k1 h1 hk
  obtain ⟨s, rfl, rfl, _, _⟩ := open_string Try.underlying9 k0 h0
  obtain ⟨t, rfl, rfl, _, _⟩ := open_string Try.underlying9 k1 h1
  have hu := bulk_all hk
  have hs := bulk_str (H := H) s
  have ht := bulk_str (H := H) t
  simp only [Rows.uptoBulkAll] at hu
  exact after_w s t W (by omega) (by omega))
end Go.Proofs.Ytiealokabmjfjaa

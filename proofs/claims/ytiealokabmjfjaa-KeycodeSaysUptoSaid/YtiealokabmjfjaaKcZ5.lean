/- The statement on a key's bytes, the row of bytes and what stands behind a text, against the reference, where what comes in is of bulk at most 1048576. -/
import Derived.Test.YtiealokabmjfjaaKcV
import Derived.Test.YtiealokabmjfjaaBulk
import Derived.Test.YtiealokabmjfjaaKeycodeSaysFrame
namespace Go.Proofs.Ytiealokabmjfjaa
set_option linter.unusedVariables false
open Go.ChangeShapes Go.WideShapes Go.ChangeAt Go.RowKit Go.Joins
open Go.ChangeMaps (open_string)

theorem keycodeSays_holds : Rows.KeycodeSaysUptoSaid := keycodeSaysFrame.of_walk (by
  intro H enc W base v0 v1 d0 d1 p0 p1 k0 h0 k1 h1 hk
  have hu := bulk_all hk
  simp only [Rows.uptoBulkAll] at hu
  obtain ⟨A, n, c, r, rfl, g1, g2, g3⟩ := open_rowT k0 h0 (by omega)
  obtain ⟨t, rfl, rfl, _, _⟩ := open_string Try.underlying9 k1 h1
  have ht := bulk_str (H := H) t
  exact says_w A n c r t W g1 g2 g3 (by omega))
end Go.Proofs.Ytiealokabmjfjaa

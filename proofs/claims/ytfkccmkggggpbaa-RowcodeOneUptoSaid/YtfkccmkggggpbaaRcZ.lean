/- The statements on rows' bytes: the bytes of a row, the row of bytes, both ways, and cut, where what comes in is of bulk at most 1048576. -/
import Derived.Test.YtfkccmkggggpbaaRcY2
import Derived.Test.YtfkccmkggggpbaaBulk
import Derived.Test.YtfkccmkggggpbaaRowcodePutsFrame
import Derived.Test.YtfkccmkggggpbaaRowcodeGetsFrame
import Derived.Test.YtfkccmkggggpbaaRowcodeBackFrame
import Derived.Test.YtfkccmkggggpbaaRowcodeOneFrame
import Derived.Test.YtfkccmkggggpbaaRowcodeCutFrame
namespace Go.Proofs.Ytfkccmkggggpbaa
set_option linter.unusedVariables false
open Go.ChangeShapes Go.WideShapes Go.ChangeAt Go.RowKit Go.Joins
open Go.ChangeMaps (open_string)

theorem rowcodePuts_holds : Rows.RowcodePutsUptoSaid := rowcodePutsFrame.of_walk (by
  intro H enc W base v0 d0 p0 k0 h0 hk
  have hu := bulk_all hk
  simp only [Rows.uptoBulkAll] at hu
  obtain ⟨A, n, c, r, rfl, g1, g2, g3⟩ := open_rowT k0 h0 (by omega)
  exact puts_w A n c r W g1 g2 g3)
theorem rowcodeGets_holds : Rows.RowcodeGetsUptoSaid := rowcodeGetsFrame.of_walk (by
  intro H enc W base v0 d0 p0 k0 h0 hk
  obtain ⟨s, rfl, rfl, _, _⟩ := open_string Try.underlying9 k0 h0
  have hu := bulk_all hk
  have hs := bulk_str (H := H) s
  simp only [Rows.uptoBulkAll] at hu
  exact gets_w s W (by omega))
theorem rowcodeBack_holds : Rows.RowcodeBackUptoSaid := rowcodeBackFrame.of_walk (by
  intro H enc W base v0 v1 d0 d1 p0 p1 k0 h0 k1 h1 hk
  have hu := bulk_all hk
  simp only [Rows.uptoBulkAll] at hu
  obtain ⟨A, n, c, r, rfl, g1, g2, g3⟩ := open_rowT k0 h0 (by omega)
  obtain ⟨A2, n2, c2, s, rfl, f1, f2, f3⟩ := open_rowT k1 h1 (by omega)
  exact back_w A A2 n c n2 c2 r s W g1 f1 g2 f2 g3 f3)
theorem rowcodeOne_holds : Rows.RowcodeOneUptoSaid := rowcodeOneFrame.of_walk (by
  intro H enc W base v0 d0 p0 k0 h0 hk
  obtain ⟨s, rfl, rfl, _, _⟩ := open_string Try.underlying9 k0 h0
  have hu := bulk_all hk
  have hs := bulk_str (H := H) s
  simp only [Rows.uptoBulkAll] at hu
  exact one_w s W (by omega))
theorem rowcodeCut_holds : Rows.RowcodeCutUptoSaid := rowcodeCutFrame.of_walk (by
  intro H enc W base v0 v1 v2 d0 d1 d2 p0 p1 p2 k0 h0 k1 h1 k2 h2 hk
  have hu := bulk_all hk
  simp only [Rows.uptoBulkAll] at hu
  obtain ⟨A, n, c, r, rfl, g1, g2, g3⟩ := open_rowT k0 h0 (by omega)
  obtain ⟨a, rfl, _, _, wa⟩ := open_int Try.underlying37 k1 h1
  obtain ⟨b, rfl, _, _, wb⟩ := open_int Try.underlying5 k2 h2
  have ha : 0 ≤ a ∧ a < 65536 := by
    simp [Lit.wf, IntKind.min, IntKind.max, IntKind.signed, IntKind.bits] at wa
    omega
  have hb : 0 ≤ b ∧ b < 256 := by
    simp [Lit.wf, IntKind.min, IntKind.max, IntKind.signed, IntKind.bits] at wb
    omega
  exact cut_w A n c r a b W g1 g2 g3 (by omega) (by omega) (by omega) (by omega))
end Go.Proofs.Ytfkccmkggggpbaa

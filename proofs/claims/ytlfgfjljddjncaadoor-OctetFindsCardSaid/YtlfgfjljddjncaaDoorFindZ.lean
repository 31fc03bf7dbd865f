/- The statement on turned bits that are found. -/
import Derived.Test.YtlfgfjljddjncaaDoorFindW
import Derived.Test.YtlfgfjljddjncaaDoorOctetFindsFrame
namespace Go.Proofs.YtlfgfjljddjncaaDoor
set_option linter.unusedVariables false
open Go.ChangeShapes Go.WideShapes Go.ChangeAt Go.RowKit Go.Joins
open Go.ChangeMaps (open_string)

theorem octetFinds_holds : Rows.OctetFindsCardSaid := octetFindsFrame.card_of_walk (by
  intro H enc W base v0 v1 v2 d0 d1 d2 p0 p1 p2 k0 h0 k1 h1 k2 h2 hL
  obtain ⟨s, rfl, _, _, hm⟩ := open_string Tryd.underlying9 k0 h0
  obtain ⟨a, rfl, _, _, wa⟩ := open_int Tryd.underlying3 k1 h1
  obtain ⟨m, rfl, _, _, wm⟩ := open_int Tryd.underlying36 k2 h2
  have hb : 0 ≤ m ∧ m < 4294967296 := by
    simp [Lit.wf, IntKind.min, IntKind.max, IntKind.bits, IntKind.signed] at wm
    omega
  unfold maxLen at hm
  by_cases hs : s.size ≤ 4000
  · exact finds_w s a m hs hb.1 hb.2 W (tabW_of hL)
  · exact finds_big s a m (by omega) (by omega) W (tabW_of hL))
end Go.Proofs.YtlfgfjljddjncaaDoor

/- The statement on texts put and got. -/
import Derived.Test.YtlfgfjljddjncaaDoorTextW
import Derived.Test.YtlfgfjljddjncaaDoorBulk
import Derived.Test.YtlfgfjljddjncaaDoorOctetTextsFrame
namespace Go.Proofs.YtlfgfjljddjncaaDoor
set_option linter.unusedVariables false
open Go.ChangeShapes Go.WideShapes Go.ChangeAt Go.RowKit Go.Joins
open Go.ChangeMaps (open_string)

theorem octetTexts_holds : Rows.OctetTextsUptoCardSaid := octetTextsFrame.card_of_walk (by
  intro H enc W base v0 v1 v2 d0 d1 d2 p0 p1 p2 k0 h0 k1 h1 k2 h2 hL hk
  obtain ⟨s, rfl, rfl, _, _⟩ := open_string Tryd.underlying9 k0 h0
  obtain ⟨a, rfl, _, _, wa⟩ := open_int Tryd.underlying3 k1 h1
  obtain ⟨m, rfl, rfl, _, _⟩ := open_string Tryd.underlying9 k2 h2
  have hb := bounds_i64 wa
  have hu := bulk_all hk
  have hs := bulk_str (H := H) s
  have hs2 := bulk_str (H := H) m
  simp only [Rows.uptoBulkAll] at hu
  exact texts_w s m a (by omega) (by omega) hb.1 W (tabW_of hL))
end Go.Proofs.YtlfgfjljddjncaaDoor

/- The statement LexLies, out of its walk: for every text. -/
import Derived.Test.YtcmhnaanfkpheaaDoorLxSc
import Derived.Test.YtcmhnaanfkpheaaDoorLexLiesFrame
import Derived.Shelf.Vars
namespace Go.Proofs.YtcmhnaanfkpheaaDoor
set_option linter.unusedVariables false
open Go.ChangeShapes Go.WideShapes Go.ChangeAt Go.RowKit Go.Joins
open Go.ChangeMaps (open_string)

theorem max_of5 {W : World} (hS : W.ShapedOpen Tryd.prog) : ∃ m, W.cell? ⟨1, 0, none⟩ = some (.int .i64 m) :=
  cell_of_shapedOpen_int (t := 3) (zero := #[.int .i64 0]) hS (of_decide_eq_true (by kernel_rfl)) (by kernel_rfl) rfl (by kernel_rfl) (by kernel_rfl) (by kernel_rfl)
theorem lexLies_holds : Rows.LexLiesCardSaid := lexLiesFrame.card_of_walk (by
  intro H enc W base v0 d0 p0 k0 h0 hL hS
  obtain ⟨s, rfl, _, _, hs⟩ := open_string Tryd.underlying9 k0 h0
  exact lexlies_w s W (max_of5 hS))
end Go.Proofs.YtcmhnaanfkpheaaDoor

/- The statement LexBlanks, out of its walk: for every text and way. -/
import Derived.Test.YtcmhnaanfkpheaaDoorLxSd
import Derived.Test.YtcmhnaanfkpheaaDoorLexBlanksFrame
import Derived.Shelf.Vars
namespace Go.Proofs.YtcmhnaanfkpheaaDoor
set_option linter.unusedVariables false
open Go.ChangeShapes Go.WideShapes Go.ChangeAt Go.RowKit Go.Joins
open Go.ChangeMaps (open_string)

theorem max_of6 {W : World} (hS : W.ShapedOpen Tryd.prog) : ∃ m, W.cell? ⟨1, 0, none⟩ = some (.int .i64 m) :=
  cell_of_shapedOpen_int (t := 3) (zero := #[.int .i64 0]) hS (of_decide_eq_true (by kernel_rfl)) (by kernel_rfl) rfl (by kernel_rfl) (by kernel_rfl) (by kernel_rfl)
theorem lexBlanks_holds : Rows.LexBlanksCardSaid := lexBlanksFrame.card_of_walk (by
  intro H enc W base v0 v1 d0 d1 p0 p1 k0 h0 k1 h1 hL hS
  obtain ⟨s, rfl, _, _, hs⟩ := open_string Tryd.underlying9 k0 h0
  obtain ⟨n, rfl, _, _, wn⟩ := open_int Tryd.underlying5 k1 h1
  have hn := bounds_u8 wn
  exact lexblanks_w s n (by omega) (by omega) W (max_of6 hS))
end Go.Proofs.YtcmhnaanfkpheaaDoor

/- The statement ValueSorts: sorting any rows gives an ascending list that agrees with the reference, is equal to the input as a multiset, and does not depend on its order; for arguments of a bulk of at most 2^20. -/
import Derived.Test.YtobepbpiagclnaaDoorSymN
import Derived.Test.YtobepbpiagclnaaDoorSymO
import Derived.Test.YtobepbpiagclnaaDoorValueSortsFrame
namespace Go.Proofs.YtobepbpiagclnaaDoor
set_option linter.unusedVariables false
open Go.ChangeShapes Go.WideShapes Go.ChangeAt Go.RowKit Go.Joins Go.Deep

theorem valueSorts_holds : Rows.ValueSortsUptoCardSaid := valueSortsFrame.card_of_walk (by
  intro H enc W base v0 v1 d0 d1 p0 p1 k0 h0 k1 h1 hL hS hk
  have hu := bulk_all hk
  simp only [Rows.uptoBulkAll] at hu
  obtain ⟨A, n, c, ps, rfl, hp, hn, hg⟩ := open_vrowsT k0 h0 (by omega)
  obtain ⟨turn, rfl, _⟩ := open_int Tryd.underlying3 k1 h1
  exact sorts_w A n c turn ps W (valW_of hL hS) hp hn hg)
end Go.Proofs.YtobepbpiagclnaaDoor

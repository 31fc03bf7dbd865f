/- The statement ValueBags: whether two lists are equal as multisets agrees with the reference, and with whether their sorted lists are equal; for arguments of a bulk of at most 2^20. -/
import Derived.Test.YtobepbpiagclnaaDoorSymL
import Derived.Test.YtobepbpiagclnaaDoorSymO
import Derived.Test.YtobepbpiagclnaaDoorValueBagsFrame
namespace Go.Proofs.YtobepbpiagclnaaDoor
set_option linter.unusedVariables false
open Go.ChangeShapes Go.WideShapes Go.ChangeAt Go.RowKit Go.Joins Go.Deep

theorem valueBags_holds : Rows.ValueBagsUptoCardSaid := valueBagsFrame.card_of_walk (by
  intro H enc W base v0 v1 d0 d1 p0 p1 k0 h0 k1 h1 hL hS hk
  have hu := bulk_all hk
  simp only [Rows.uptoBulkAll] at hu
  obtain ⟨A, n, c, ps, rfl, hp, hn, hg⟩ := open_vrowsT k0 h0 (by omega)
  obtain ⟨A2, n2, c2, qs, rfl, hq, hn2, hg2⟩ := open_vrowsT k1 h1 (by omega)
  exact bags_w A A2 n c n2 c2 ps qs W (valW_of hL hS) hp hq hn hn2 hg hg2)
end Go.Proofs.YtobepbpiagclnaaDoor

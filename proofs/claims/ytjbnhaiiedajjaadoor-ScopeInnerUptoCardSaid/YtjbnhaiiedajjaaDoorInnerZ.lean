/- The statement on columns of enclosing queries. -/
import Derived.Test.YtjbnhaiiedajjaaDoorInner
import Derived.Test.YtjbnhaiiedajjaaDoorScopeInnerFrame
namespace Go.Proofs.YtjbnhaiiedajjaaDoor
set_option linter.unusedVariables false
open Go.ChangeShapes Go.WideShapes Go.ChangeAt Go.RowKit Go.Joins Go.Deep
open Go.ChangeMaps (open_string)

theorem scopeInner_holds : Rows.ScopeInnerUptoCardSaid := scopeInnerFrame.card_of_walk (by
  intro H enc W base v0 v1 v2 v3 d0 d1 d2 d3 p0 p1 p2 p3 k0 h0 k1 h1 k2 h2 k3 h3 hL hk
  have hu := bulk_all hk
  simp only [Rows.uptoBulkAll] at hu
  obtain ⟨n, h0'⟩ := h0
  obtain ⟨A, N, C, env, e, hE, hN, hn⟩ := open_env (M := 1048576) (by simp only; omega) h0'
  obtain ⟨a0, len0, cap0, rfl⟩ := okWide_slice Tryd.underlying22 k0
  simp [Value.cells] at e
  obtain ⟨rfl, rfl, rfl⟩ := e
  obtain ⟨n1, h1'⟩ := h1
  obtain ⟨A1, N1, C1, cs, e1, hE1, hN1⟩ := open_cols (M := 1048576) (by simp only; omega) h1'
  obtain ⟨a1, len1, cap1, rfl⟩ := okWide_slice Tryd.underlying28 k1
  simp [Value.cells] at e1
  obtain ⟨rfl, rfl, rfl⟩ := e1
  obtain ⟨t, rfl, _⟩ := open_string Tryd.underlying9 k2 h2
  obtain ⟨m, rfl, _⟩ := open_string Tryd.underlying9 k3 h3
  exact inner_a _ _ _ _ _ _ env cs t m W (numW_of hL) hE hE1 hN)
end Go.Proofs.YtjbnhaiiedajjaaDoor

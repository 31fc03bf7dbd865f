/- The statements on names found, stars and orders, and items' names. -/
import Derived.Test.YtjbnhaiiedajjaaDoorScopeW
import Derived.Test.YtjbnhaiiedajjaaDoorField
import Derived.Test.YtjbnhaiiedajjaaDoorScopeFindsFrame
import Derived.Test.YtjbnhaiiedajjaaDoorScopeSaysFrame
import Derived.Test.YtjbnhaiiedajjaaDoorScopeOutFrame
namespace Go.Proofs.YtjbnhaiiedajjaaDoor
set_option linter.unusedVariables false
open Go.ChangeShapes Go.WideShapes Go.ChangeAt Go.RowKit Go.Joins Go.Deep
open Go.ChangeMaps (open_string)

theorem open_item {H : Type} {enc : TypeId × Value → H} {W : World} {base : Nat} {v : Value} {d : DataW H} {p : List MemPlace}
    (hok : Value.okWide Tryd.prog W .any base 46 v) (h : DataW.Trod enc Tryd.prog W 0 (fun _ => true) true 46 v d p) : ∃ i : ItemV, v = .agg (itemCells i) := by
  obtain ⟨cs, rfl, hsz⟩ := okWide_struct Tryd.underlying46 hok
  have hC : Tryd.prog.cellsOf 46 = 12 := by kernel_rfl
  rw [hC] at hsz
  obtain ⟨l⟩ := cs
  match l, hsz with
  | [c0, c1, c2, c3, c4, c5, c6, c7, c8, c9, c10, c11], _ =>
    obtain ⟨fuel, hf⟩ := h
    obtain ⟨_, _, g0, _⟩ := field_of Tryd.underlying46 hf 0 rfl rfl one_bool
    obtain ⟨_, _, g1, _⟩ := field_of Tryd.underlying46 hf 1 rfl rfl one_str
    obtain ⟨_, _, g2, _⟩ := field_of Tryd.underlying46 hf 2 rfl rfl (show Tryd.prog.cellsOf 44 = 9 by kernel_rfl)
    obtain ⟨_, _, g3, _⟩ := field_of Tryd.underlying46 hf 3 rfl rfl one_str
    obtain ⟨_, _, k0, _⟩ := field_of Tryd.underlying44 g2 0 rfl rfl one_int
    obtain ⟨_, _, k1, _⟩ := field_of Tryd.underlying44 g2 1 rfl rfl (show Tryd.prog.cellsOf 40 = 3 by kernel_rfl)
    obtain ⟨_, _, k2, _⟩ := field_of Tryd.underlying44 g2 2 rfl rfl one_str
    obtain ⟨_, _, k3, _⟩ := field_of Tryd.underlying44 g2 3 rfl rfl one_str
    obtain ⟨_, _, k4, _⟩ := field_of Tryd.underlying44 g2 4 rfl rfl one_bool
    obtain ⟨_, _, m0, _⟩ := field_of Tryd.underlying40 k1 0 rfl rfl one_int
    obtain ⟨_, _, m1, _⟩ := field_of Tryd.underlying40 k1 1 rfl rfl one_int
    obtain ⟨_, _, m2, _⟩ := field_of Tryd.underlying40 k1 2 rfl rfl one_str
    obtain ⟨b0, e0, _⟩ := DataW.trod_bool Tryd.underlying4 g0
    obtain ⟨s1, e1, _, _⟩ := DataW.trod_string Tryd.underlying9 g1
    obtain ⟨s11, e11, _, _⟩ := DataW.trod_string Tryd.underlying9 g3
    obtain ⟨n2, e2, _, _⟩ := DataW.trod_int Tryd.underlying3 k0
    obtain ⟨s6, e6, _, _⟩ := DataW.trod_string Tryd.underlying9 k2
    obtain ⟨s7, e7, _, _⟩ := DataW.trod_string Tryd.underlying9 k3
    obtain ⟨b8, e8, _⟩ := DataW.trod_bool Tryd.underlying4 k4
    obtain ⟨n3, e3, _, _⟩ := DataW.trod_int Tryd.underlying3 m0
    obtain ⟨n4, e4, _, _⟩ := DataW.trod_int Tryd.underlying3 m1
    obtain ⟨s5, e5, _, _⟩ := DataW.trod_string Tryd.underlying9 m2
    simp [Value.cells] at e0 e1 e2 e3 e4 e5 e6 e7 e8 e11
    subst e0 e1 e2 e3 e4 e5 e6 e7 e8 e11
    exact ⟨⟨b0, s1, n2, n3, n4, s5, s6, s7, b8, c9, c10, s11⟩, rfl⟩
theorem scopeFinds_holds : Rows.ScopeFindsUptoCardSaid := scopeFindsFrame.card_of_walk (by
  intro H enc W base v0 v1 v2 d0 d1 d2 p0 p1 p2 k0 h0 k1 h1 k2 h2 hL hk
  have hu := bulk_all hk
  simp only [Rows.uptoBulkAll] at hu
  obtain ⟨n, h0'⟩ := h0
  obtain ⟨A, N, C, env, e, hE, hN, hn⟩ := open_env (M := 1048576) (by simp only; omega) h0'
  obtain ⟨a0, len0, cap0, rfl⟩ := okWide_slice Tryd.underlying22 k0
  simp [Value.cells] at e
  obtain ⟨rfl, rfl, rfl⟩ := e
  obtain ⟨t, rfl, _⟩ := open_string Tryd.underlying9 k1 h1
  obtain ⟨m, rfl, _⟩ := open_string Tryd.underlying9 k2 h2
  exact finds_w _ _ _ env t m W (numW_of hL) hE hN hn)
theorem scopeSays_holds : Rows.ScopeSaysUptoCardSaid := scopeSaysFrame.card_of_walk (by
  intro H enc W base v0 v1 v2 d0 d1 d2 p0 p1 p2 k0 h0 k1 h1 k2 h2 hL hk
  have hu := bulk_all hk
  simp only [Rows.uptoBulkAll] at hu
  obtain ⟨n, h0'⟩ := h0
  obtain ⟨A, N, C, cs, e, hE, hN⟩ := open_cols (M := 1048576) (by simp only; omega) h0'
  obtain ⟨a0, len0, cap0, rfl⟩ := okWide_slice Tryd.underlying28 k0
  simp [Value.cells] at e
  obtain ⟨rfl, rfl, rfl⟩ := e
  obtain ⟨t, rfl, _⟩ := open_string Tryd.underlying9 k1 h1
  obtain ⟨n2, h2'⟩ := h2
  obtain ⟨A2, N2, C2, l, e2, hE2, hN2⟩ := open_ords (M := 1048576) (by simp only; omega) h2'
  obtain ⟨a2, len2, cap2, rfl⟩ := okWide_slice Tryd.underlying29 k2
  simp [Value.cells] at e2
  obtain ⟨rfl, rfl, rfl⟩ := e2
  exact says_w _ _ _ _ _ _ cs l t W (numW_of hL) hE hE2 hN hN2)
theorem scopeOut_holds : Rows.ScopeOutCardSaid := scopeOutFrame.card_of_walk (by
  intro H enc W base v0 v1 d0 d1 p0 p1 k0 h0 k1 h1 hL
  obtain ⟨i, rfl⟩ := open_item k0 h0
  obtain ⟨a, rfl, _, _, _⟩ := open_int Tryd.underlying3 k1 h1
  exact outs_w i a W (numW_of hL))
end Go.Proofs.YtjbnhaiiedajjaaDoor

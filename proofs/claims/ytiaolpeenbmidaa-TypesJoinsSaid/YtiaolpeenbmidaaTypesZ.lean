/- The statements on package types, out of their walks: what operators, functions and aggregates make of kinds is what the document's reference says; unknown kinds are taken where known ones are; joined kinds hang on no order. -/
import Derived.Test.YtiaolpeenbmidaaTypesK
import Derived.Test.YtiaolpeenbmidaaTypesOpsFrame
import Derived.Test.YtiaolpeenbmidaaTypesNamedFrame
import Derived.Test.YtiaolpeenbmidaaTypesFitsFrame
import Derived.Test.YtiaolpeenbmidaaTypesUnknownFrame
import Derived.Test.YtiaolpeenbmidaaTypesJoinsFrame
namespace Go.Proofs.Ytiaolpeenbmidaa
set_option linter.unusedVariables false
open Go.ChangeShapes Go.WideShapes Go.ChangeAt Go.RowKit Go.Joins
open Go.ChangeMaps (open_string)

theorem cellsVal : Try.prog.cellsOf 34 = 3 := by kernel_rfl
theorem cellsCol : Try.prog.cellsOf 36 = 3 := by kernel_rfl
theorem open_Val {H : Type} {enc : TypeId × Value → H} {w : World} {base : Nat} {v : Value} {d : DataW H} {p : List MemPlace}
    (hok : Value.okWide Try.prog w .any base 34 v) (h : DataW.Trod enc Try.prog w 0 (fun _ => true) true 34 v d p) :
    ∃ (k n : Int) (s : ByteArray), v = .agg #[.int .i64 k, .int .i64 n, .string s] ∧ d = .agg [.lit (.int .i64 k), .lit (.int .i64 n), .lit (.string s.data.toList)] ∧ (Lit.int .i64 k).wf = true ∧ (Lit.int .i64 n).wf = true ∧ s.size ≤ maxLen := by
  obtain ⟨c0, c1, c2, y0, y1, y2, m, rfl, rfl, _, hy0, hy1, hy2⟩ := open_agg3 Try.underlying34 (by kernel_rfl) cellsVal hok h
  obtain ⟨k, e0, rfl, wk⟩ := DataW.trod_int Try.underlying3 hy0
  obtain ⟨n, e1, rfl, wn⟩ := DataW.trod_int Try.underlying3 hy1
  obtain ⟨s, e2, rfl, ws⟩ := DataW.trod_string Try.underlying9 hy2
  simp at e0 e1 e2
  subst e0 e1 e2
  exact ⟨k, n, s, rfl, rfl, wk, wn, ws⟩
theorem open_Col {H : Type} {enc : TypeId × Value → H} {w : World} {base : Nat} {v : Value} {d : DataW H} {p : List MemPlace}
    (hok : Value.okWide Try.prog w .any base 36 v) (h : DataW.Trod enc Try.prog w 0 (fun _ => true) true 36 v d p) :
    ∃ (s : ByteArray) (ty : Int) (b : Bool), v = .agg #[.string s, .int .i64 ty, .bool b] ∧ s.size ≤ maxLen := by
  obtain ⟨c0, c1, c2, y0, y1, y2, m, rfl, rfl, _, hy0, hy1, hy2⟩ := open_agg3 Try.underlying36 (by kernel_rfl) cellsCol hok h
  obtain ⟨s, e0, rfl, ws⟩ := DataW.trod_string Try.underlying9 hy0
  obtain ⟨n, e1, rfl, wn⟩ := DataW.trod_int Try.underlying3 hy1
  obtain ⟨b, e2, rfl⟩ := DataW.trod_bool Try.underlying4 hy2
  simp at e0 e1 e2
  subst e0 e1 e2
  exact ⟨s, n, b, rfl, ws⟩
theorem typesJoins_holds : Rows.TypesJoinsSaid := typesJoinsFrame.of_walk (by
  intro H enc W base v0 v1 v2 d0 d1 d2 p0 p1 p2 k0 h0 k1 h1 k2 h2
  obtain ⟨a, rfl, _, _, _⟩ := open_int Try.underlying3 k0 h0
  obtain ⟨b, rfl, _, _, _⟩ := open_int Try.underlying3 k1 h1
  obtain ⟨c, rfl, _, _, _⟩ := open_int Try.underlying3 k2 h2
  exact joins_w a b c W)
theorem typesOps_holds : Rows.TypesOpsSaid := typesOpsFrame.of_walk (by
  intro H enc W base v0 v1 d0 d1 p0 p1 k0 h0 k1 h1
  obtain ⟨op, rfl, _, _, _⟩ := open_int Try.underlying3 k0 h0
  obtain ⟨A, n, c, xs, rfl, hnc, hc, hA, hx, _, hd⟩ := open_Ints Try.underlying22 Try.underlying3 (by kernel_rfl) k1 h1
  by_cases hn : n ≤ 100
  · exact ops_w op A n c xs W hx hn hnc hA
  · exact ops_far op A n c W (by omega) (Nat.le_trans hnc hc))
theorem typesNamed_holds : Rows.TypesNamedSaid := typesNamedFrame.of_walk (by
  intro H enc W base v0 v1 v2 d0 d1 d2 p0 p1 p2 k0 h0 k1 h1 k2 h2
  obtain ⟨s, rfl, _, _, _⟩ := open_string Try.underlying9 k0 h0
  obtain ⟨A, n, c, xs, rfl, hnc, hc, hA, hx, _, hd⟩ := open_Ints Try.underlying22 Try.underlying3 (by kernel_rfl) k1 h1
  obtain ⟨k, rfl, _, _, _⟩ := open_int Try.underlying3 k2 h2
  by_cases hn : n ≤ 100
  · exact named_w s k A n c xs W hx hn
  · exact named_far s k A n c W (by omega) (Nat.le_trans hnc hc))
theorem typesUnknown_holds : Rows.TypesUnknownSaid := typesUnknownFrame.of_walk (by
  intro H enc W base v0 v1 v2 d0 d1 d2 p0 p1 p2 k0 h0 k1 h1 k2 h2
  obtain ⟨op, rfl, _, _, _⟩ := open_int Try.underlying3 k0 h0
  obtain ⟨s, rfl, _, _, _⟩ := open_string Try.underlying9 k1 h1
  obtain ⟨A, n, c, xs, rfl, hnc, hc, hA, hx, _, hd⟩ := open_Ints Try.underlying22 Try.underlying3 (by kernel_rfl) k2 h2
  by_cases hn : n ≤ 40
  · exact unknown_w op s A n c xs W hx hn hnc hA
  · exact unknown_far op s A n c W (by omega) (Nat.le_trans hnc hc))
theorem typesFits_holds : Rows.TypesFitsSaid := typesFitsFrame.of_walk (by
  intro H enc W base v0 v1 d0 d1 p0 p1 k0 h0 k1 h1
  obtain ⟨k, n, s, rfl, _, _, _, hs⟩ := open_Val k0 h0
  obtain ⟨nm, ty, nn, rfl, _⟩ := open_Col k1 h1
  exact fits_w k n s nm ty nn W hs)
end Go.Proofs.Ytiaolpeenbmidaa

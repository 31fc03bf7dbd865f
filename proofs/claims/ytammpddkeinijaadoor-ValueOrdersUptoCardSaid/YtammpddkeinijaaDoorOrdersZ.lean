/- The statement ValueOrders. -/
import Derived.Test.YtammpddkeinijaaDoorOrdersW
import Derived.Test.YtammpddkeinijaaDoorValueOrdersFrame
namespace Go.Proofs.YtammpddkeinijaaDoor
set_option linter.unusedVariables false
open Go.ChangeShapes Go.WideShapes Go.ChangeAt Go.RowKit Go.Joins Go.Deep

theorem open_three {H : Type} {enc : TypeId × Value → H} {w : World} {base : Nat} {v : Value} {d : DataW H} {p : List MemPlace}
    (hok : Value.okWide Tryd.prog w .any base 40 v) (h : DataW.Trod enc Tryd.prog w 0 (fun _ => true) true 40 v d p) (hM : Rows.uptoBulk d ≤ 1048576) :
    ∃ A0 n0 c0 r A1 n1 c1 s A2 n2 c2 t, v = .agg #[.slice A0 n0 c0, .slice A1 n1 c1, .slice A2 n2 c2] ∧ RowAt w w.heap.size A0 n0 c0 r ∧ n0 ≤ 1048576 ∧ RowAt w w.heap.size A1 n1 c1 s ∧ RowAt w w.heap.size A2 n2 c2 t := by
  have ht := Tryd.underlying40
  have hc : Tryd.prog.cellsOf 35 = 1 := by kernel_rfl
  have hC : Tryd.prog.cellsOf 40 = 3 := by kernel_rfl
  simp only [Value.okWide, ht] at hok
  obtain ⟨cs, rfl, hsz, _⟩ := hok
  obtain ⟨l⟩ := cs
  match l, hsz.trans hC with
  | [k0, k1, k2], _ =>
    obtain ⟨fuel, hf⟩ := h
    obtain ⟨xs, m, _, ex, _, hlen, hg⟩ := DataW.trod_array ht hf
    match xs, hlen with
    | [y0, y1, y2], _ =>
      have ed : d = .agg [y0.1, y1.1, y2.1] := by simpa using (Prod.mk.inj ex).1
      subst ed
      have hb := bulk_parts [y0.1, y1.1, y2.1]
      have m0 : Rows.uptoBulk y0.1 ≤ Rows.uptoBulkAll [y0.1, y1.1, y2.1] := bulk_mem (by simp)
      have m1 : Rows.uptoBulk y1.1 ≤ Rows.uptoBulkAll [y0.1, y1.1, y2.1] := bulk_mem (by simp)
      have m2 : Rows.uptoBulk y2.1 ≤ Rows.uptoBulkAll [y0.1, y1.1, y2.1] := bulk_mem (by simp)
      obtain ⟨A0, n0, c0, r, e0, g0, b0, _⟩ := open_vrow (M := 1048576) (x := y0) (by omega) (by simpa [Value.cells, hc] using hg 0 (by omega))
      obtain ⟨A1, n1, c1, s, e1, g1, _, _⟩ := open_vrow (M := 1048576) (x := y1) (by omega) (by simpa [Value.cells, hc] using hg 1 (by omega))
      obtain ⟨A2, n2, c2, t, e2, g2, _, _⟩ := open_vrow (M := 1048576) (x := y2) (by omega) (by simpa [Value.cells, hc] using hg 2 (by omega))
      simp at e0 e1 e2
      subst e0 e1 e2
      exact ⟨A0, n0, c0, r, A1, n1, c1, s, A2, n2, c2, t, rfl, g0, b0, g1, g2⟩
theorem valueOrders_holds : Rows.ValueOrdersUptoCardSaid := valueOrdersFrame.card_of_walk (by
  intro H enc W base v0 v1 d0 d1 p0 p1 k0 h0 k1 h1 hL hS hk
  have hu := bulk_all hk
  simp only [Rows.uptoBulkAll] at hu
  obtain ⟨A0, n0, c0, r, A1, n1, c1, s, A2, n2, c2, t, rfl, g0, b0, g1, g2⟩ := open_three k0 h0 (by omega)
  obtain ⟨a, rfl, ha⟩ := open_valT k1 h1 (by omega)
  exact orders_w A0 A1 A2 n0 c0 n1 c1 n2 c2 r s t a.kind a.num a.str W (valW_of hL hS) g0 g1 g2 b0)
end Go.Proofs.YtammpddkeinijaaDoor

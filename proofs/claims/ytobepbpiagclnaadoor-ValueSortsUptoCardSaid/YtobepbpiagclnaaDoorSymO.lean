/- Lists of rows that came in, of a bounded bulk. -/
import Derived.Test.YtobepbpiagclnaaDoorSymK
import Derived.Test.YtobepbpiagclnaaDoorValGc
namespace Go.Proofs.YtobepbpiagclnaaDoor
set_option linter.unusedVariables false
open Go.ChangeShapes Go.WideShapes Go.ChangeAt Go.RowKit Go.Joins Go.Deep

theorem open_vrowsT {H : Type} {enc : TypeId × Value → H} {w : World} {base : Nat} {v : Value} {d : DataW H} {p : List MemPlace}
    (hok : Value.okWide Tryd.prog w .any base 22 v) (h : DataW.Trod enc Tryd.prog w 0 (fun _ => true) true 22 v d p) (hM : Rows.uptoBulk d ≤ 1048576) :
    ∃ A N C ps, v = .slice A N C ∧ HsAt w A N C ps ∧ N ≤ 1048576 ∧ ∀ p ∈ ps, StrsOk p.2 ∧ p.2.length ≤ 1048576 := by
  obtain ⟨n, h0⟩ := h
  obtain ⟨A, N, C, l, e, h1, h2, h3, h4, h5, h6, h7⟩ := open_elems (α := HRow) hdC (Good := fun p => RowAt w w.heap.size p.1.A p.1.n p.1.c p.2 ∧ StrsOk p.2 ∧ p.2.length ≤ 1048576) Tryd.underlying22 (k := 1) (by kernel_rfl) (by omega) Rows.uptoBulk bulk_el bulk_le (M := 1048576) (by simpa using hM) (fun n vs y hl hy hb => by
    obtain ⟨A, N, C, l, e, h1, h2, h3⟩ := open_vrow (M := 1048576) hb hy
    exact ⟨(⟨A, N, C⟩, l), e, h1, fun v hv => by have := (h3 v hv).2; omega, by show l.length ≤ 1048576; have := h1.len; omega⟩) h0
  obtain ⟨a0, len0, cap0, rfl⟩ := okWide_slice Tryd.underlying22 hok
  simp [Value.cells] at e
  obtain ⟨rfl, rfl, rfl⟩ := e
  exact ⟨_, _, _, l, rfl, ⟨⟨h4, h1, h2, h3, h6⟩, fun p hp => (h7 p hp).1⟩, h5, fun p hp => (h7 p hp).2⟩
end Go.Proofs.YtobepbpiagclnaaDoor

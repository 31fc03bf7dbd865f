/- Columns, environments and orders that came in. -/
import Derived.Test.YtjbnhaiiedajjaaDoorAwake
import Derived.Test.YtjbnhaiiedajjaaDoorBulk
namespace Go.Proofs.YtjbnhaiiedajjaaDoor
set_option linter.unusedVariables false
open Go.ChangeShapes Go.WideShapes Go.ChangeAt Go.RowKit Go.Deep

theorem one_str : Tryd.prog.cellsOf 9 = 1 := by kernel_rfl
theorem one_int : Tryd.prog.cellsOf 3 = 1 := by kernel_rfl
theorem one_bool : Tryd.prog.cellsOf 4 = 1 := by kernel_rfl
section
variable {H : Type} {enc : TypeId × Value → H} {w : World} {base : Nat} {spare : Nat → Bool} {held : Bool}
theorem open_col {n : Nat} {vs : List Value} {y : DataW H × List MemPlace} (hl : vs.length = 3) (h : DataW.trod enc Tryd.prog w base spare held n 50 vs = some y) : ∃ c : ColV, vs = colCells c := by
  obtain ⟨a, b, c, y0, y1, y2, m, rfl, _, f0, f1, f2⟩ := open_fields3 Tryd.underlying50 (by kernel_rfl) hl h
  obtain ⟨s0, e0, _, _⟩ := DataW.trod_string Tryd.underlying9 f0
  obtain ⟨s1, e1, _, _⟩ := DataW.trod_string Tryd.underlying9 f1
  obtain ⟨k, e2, _, _⟩ := DataW.trod_int Tryd.underlying3 f2
  simp only [List.cons.injEq, and_true] at e0 e1 e2
  subst e0 e1 e2
  exact ⟨⟨s0, s1, k⟩, rfl⟩
theorem open_ord {n : Nat} {vs : List Value} {y : DataW H × List MemPlace} (hl : vs.length = 3) (h : DataW.trod enc Tryd.prog w base spare held n 54 vs = some y) : ∃ o : OrdV, vs = ordCells o ∧ -9223372036854775808 ≤ o.pos ∧ o.pos ≤ 9223372036854775807 := by
  obtain ⟨a, b, c, y0, y1, y2, m, rfl, _, f0, f1, f2⟩ := open_fields3 Tryd.underlying54 (by kernel_rfl) hl h
  obtain ⟨s0, e0, _, _⟩ := DataW.trod_string Tryd.underlying9 f0
  obtain ⟨k, e1, _, hk⟩ := DataW.trod_int Tryd.underlying3 f1
  obtain ⟨d, e2, _⟩ := DataW.trod_bool Tryd.underlying4 f2
  simp only [List.cons.injEq, and_true] at e0 e1 e2
  subst e0 e1 e2
  exact ⟨⟨s0, k, d⟩, rfl, bounds_i64 hk⟩
/-- A slice of columns. -/
theorem open_cols {n : Nat} {cs : List Value} {x : DataW H × List MemPlace} {M : Nat} (hM : Rows.uptoBulk x.1 ≤ M) (h : DataW.trod enc Tryd.prog w base spare held n 28 cs = some x) :
    ∃ A N C l, cs = [.slice A N C] ∧ ColsAt w w.heap.size A N C l ∧ N ≤ M := by
  have hf : ∀ n vs y, vs.length = 3 → DataW.trod enc Tryd.prog w base spare held n 50 vs = some y → Rows.uptoBulk y.1 ≤ M → ∃ c : ColV, vs = colCells c ∧ True := fun n vs y hl hy _ => by
    obtain ⟨c, hc⟩ := open_col hl hy
    exact ⟨c, hc, trivial⟩
  obtain ⟨A, N, C, l, rfl, h1, h2, h3, h4, h5, h6, _⟩ := open_elems (α := ColV) colCells (Good := fun _ => True) Tryd.underlying28 (k := 3) (by kernel_rfl) (by omega) Rows.uptoBulk bulk_el bulk_le hM hf h
  exact ⟨A, N, C, l, rfl, ⟨h4, h1, h2, h3, h6⟩, h5⟩
theorem open_ords {n : Nat} {cs : List Value} {x : DataW H × List MemPlace} {M : Nat} (hM : Rows.uptoBulk x.1 ≤ M) (h : DataW.trod enc Tryd.prog w base spare held n 29 cs = some x) :
    ∃ A N C l, cs = [.slice A N C] ∧ OrdsAt w w.heap.size A N C l ∧ N ≤ M := by
  have hf : ∀ n vs y, vs.length = 3 → DataW.trod enc Tryd.prog w base spare held n 54 vs = some y → Rows.uptoBulk y.1 ≤ M → ∃ c : OrdV, vs = ordCells c ∧ (-9223372036854775808 ≤ c.pos ∧ c.pos ≤ 9223372036854775807) := fun n vs y hl hy _ => open_ord hl hy
  obtain ⟨A, N, C, l, rfl, h1, h2, h3, h4, h5, h6, h7⟩ := open_elems (α := OrdV) ordCells (Good := fun c => -9223372036854775808 ≤ c.pos ∧ c.pos ≤ 9223372036854775807) Tryd.underlying29 (k := 3) (by kernel_rfl) (by omega) Rows.uptoBulk bulk_el bulk_le hM hf h
  exact ⟨A, N, C, l, rfl, ⟨h4, h1, h2, h3, h6, h7⟩, h5⟩
/-- A slice of slices of columns. -/
theorem open_env {n : Nat} {cs : List Value} {x : DataW H × List MemPlace} {M : Nat} (hM : Rows.uptoBulk x.1 ≤ M) (h : DataW.trod enc Tryd.prog w base spare held n 22 cs = some x) :
    ∃ A N C env, cs = [.slice A N C] ∧ EnvAt w w.heap.size A N C env ∧ N ≤ M ∧ ∀ l ∈ env, l.length ≤ M := by
  have hf : ∀ n vs y, vs.length = 1 → DataW.trod enc Tryd.prog w base spare held n 28 vs = some y → Rows.uptoBulk y.1 ≤ M → ∃ m : ListV × List ColV, vs = listVal m.1 ∧ (ColsAt w w.heap.size m.1.A m.1.n m.1.c m.2 ∧ m.2.length ≤ M) := fun n vs y hl hy hb => by
    obtain ⟨A, N, C, l, rfl, hc, hn⟩ := open_cols hb hy
    exact ⟨(⟨A, N, C⟩, l), rfl, hc, by have := hc.len; simp only; omega⟩
  obtain ⟨A, N, C, l, rfl, h1, h2, h3, h4, h5, h6, h7⟩ := open_elems (α := ListV × List ColV) (fun m => listVal m.1) (Good := fun m => ColsAt w w.heap.size m.1.A m.1.n m.1.c m.2 ∧ m.2.length ≤ M) Tryd.underlying22 (k := 1) (by kernel_rfl) (by omega) Rows.uptoBulk bulk_el bulk_le hM hf h
  refine ⟨A, N, C, l.map (·.2), rfl, ⟨by rw [List.length_map, h4], h1, h2, h3, l.map (·.1), by rw [List.length_map, h4], by rw [List.map_map]; exact h6, ?_⟩, h5, ?_⟩
  · intro i m cs hm hcs
    rw [List.getElem?_map] at hm hcs
    obtain ⟨p, hp, rfl⟩ := Option.map_eq_some_iff.1 hm
    rw [hp] at hcs
    simp at hcs
    subst hcs
    exact (h7 p (List.mem_of_getElem? hp)).1
  · intro cs hcs
    obtain ⟨p, hp, rfl⟩ := List.mem_map.1 hcs
    exact (h7 p hp).2
end
end Go.Proofs.YtjbnhaiiedajjaaDoor

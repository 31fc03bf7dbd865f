/- Values and rows that came in. -/
import Derived.Test.YtlkeghfdpbfhbaaValR
import Derived.Test.YtlkeghfdpbfhbaaBulk
import Derived.OpenShut
namespace Go.Proofs.Ytlkeghfdpbfhbaa
set_option linter.unusedVariables false
open Go.ChangeShapes Go.WideShapes Go.ChangeAt Go.RowKit Go.Deep

def OkV (v : ValV) : Prop := (-9223372036854775808 ≤ v.num ∧ v.num ≤ 9223372036854775807) ∧ v.str.size ≤ 1048576
theorem one_str : Try.prog.cellsOf 9 = 1 := by kernel_rfl
theorem one_int : Try.prog.cellsOf 3 = 1 := by kernel_rfl
section
variable {H : Type} {enc : TypeId × Value → H} {w : World} {base : Nat} {spare : Nat → Bool} {held : Bool}
theorem open_val {n : Nat} {vs : List Value} {y : DataW H × List MemPlace} {M : Nat} (hl : vs.length = 3) (h : DataW.trod enc Try.prog w base spare held n 26 vs = some y) (hM : Rows.uptoBulk y.1 ≤ M) :
    ∃ a : ValV, vs = valCells a ∧ ((-9223372036854775808 ≤ a.num ∧ a.num ≤ 9223372036854775807) ∧ a.str.size ≤ M) := by
  obtain ⟨a, b, c, y0, y1, y2, m, rfl, hy, f0, f1, f2⟩ := open_fields3 Try.underlying26 (by kernel_rfl) hl h
  obtain ⟨k, e0, _, _⟩ := DataW.trod_int Try.underlying3 f0
  obtain ⟨n, e1, _, hn⟩ := DataW.trod_int Try.underlying3 f1
  obtain ⟨s, e2, hs, _⟩ := DataW.trod_string Try.underlying9 f2
  simp only [List.cons.injEq, and_true] at e0 e1 e2
  subst e0 e1 e2
  refine ⟨⟨k, n, s⟩, rfl, bounds_i64 hn, ?_⟩
  have h1 := bulk_parts [y0.1, y1.1, y2.1]
  have h2 : Rows.uptoBulk y2.1 ≤ Rows.uptoBulkAll [y0.1, y1.1, y2.1] := bulk_mem (by simp)
  have h3 := bulk_str (H := H) s
  rw [hy] at hM
  rw [hs] at h1 h2 hM
  simp only at *
  omega
theorem open_vrow {n : Nat} {cs : List Value} {x : DataW H × List MemPlace} {M : Nat} (hM : Rows.uptoBulk x.1 ≤ M) (h : DataW.trod enc Try.prog w base spare held n 36 cs = some x) :
    ∃ A N C l, cs = [.slice A N C] ∧ RowAt w w.heap.size A N C l ∧ N ≤ M ∧ ∀ a ∈ l, (-9223372036854775808 ≤ a.num ∧ a.num ≤ 9223372036854775807) ∧ a.str.size ≤ M := by
  have hf : ∀ n vs y, vs.length = 3 → DataW.trod enc Try.prog w base spare held n 26 vs = some y → Rows.uptoBulk y.1 ≤ M → ∃ a : ValV, vs = valCells a ∧ ((-9223372036854775808 ≤ a.num ∧ a.num ≤ 9223372036854775807) ∧ a.str.size ≤ M) := fun n vs y hl hy hb => open_val hl hy hb
  obtain ⟨A, N, C, l, rfl, h1, h2, h3, h4, h5, h6, h7⟩ := open_elems (α := ValV) valCells (Good := fun a => (-9223372036854775808 ≤ a.num ∧ a.num ≤ 9223372036854775807) ∧ a.str.size ≤ M) Try.underlying36 (k := 3) (by kernel_rfl) (by omega) Rows.uptoBulk bulk_el bulk_le hM hf h
  exact ⟨A, N, C, l, rfl, ⟨h4, h1, h2, h3, h6⟩, h5, h7⟩
theorem open_valT {v : Value} {d : DataW H} {p : List MemPlace} (hok : Value.okWide Try.prog w .any base 26 v) (h : DataW.Trod enc Try.prog w 0 (fun _ => true) true 26 v d p) (hM : Rows.uptoBulk d ≤ 1048576) : ∃ a : ValV, v = valAgg a ∧ OkV a := by
  obtain ⟨cs, rfl, hsz⟩ := okWide_struct Try.underlying26 hok
  have hC : Try.prog.cellsOf 26 = 3 := by kernel_rfl
  rw [hC] at hsz
  obtain ⟨fuel, hf⟩ := h
  obtain ⟨a, ha, h1, h2⟩ := open_val (M := 1048576) (vs := cs.toList) (by rw [Array.length_toList]; exact hsz) hf hM
  refine ⟨a, ?_, h1, h2⟩
  obtain ⟨l⟩ := cs
  simp only at ha
  rw [ha]
  rfl
theorem open_rowT {v : Value} {d : DataW H} {p : List MemPlace} (hok : Value.okWide Try.prog w .any base 36 v) (h : DataW.Trod enc Try.prog w 0 (fun _ => true) true 36 v d p) (hM : Rows.uptoBulk d ≤ 1048576) : ∃ A N C l, v = .slice A N C ∧ RowAt w w.heap.size A N C l ∧ N ≤ 1048576 ∧ ∀ a ∈ l, OkV a := by
  obtain ⟨n, h0⟩ := h
  obtain ⟨A, N, C, l, e, h1, h2, h3⟩ := open_vrow (M := 1048576) (by simpa using hM) h0
  obtain ⟨a0, len0, cap0, rfl⟩ := okWide_slice Try.underlying36 hok
  simp [Value.cells] at e
  obtain ⟨rfl, rfl, rfl⟩ := e
  exact ⟨_, _, _, l, rfl, h1, h2, h3⟩
end
end Go.Proofs.Ytlkeghfdpbfhbaa

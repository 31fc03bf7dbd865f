/- What the bound on the arguments' bulk gives. -/
import Derived.Test.YtlkeghfdpbfhbaaRows
namespace Go.Proofs.Ytlkeghfdpbfhbaa
set_option linter.unusedVariables false

theorem bulk_pos {H : Type} (d : DataW H) : 1 ≤ Rows.uptoBulk d := by
  cases d with
  | lit l => cases l <;> simp [Rows.uptoBulk]
  | _ => simp [Rows.uptoBulk]
theorem bulk_len {H : Type} : ∀ l : List (DataW H), l.length ≤ Rows.uptoBulkAll l
  | [] => by simp [Rows.uptoBulkAll]
  | d :: l => by have := bulk_pos d; have := bulk_len l; simp only [Rows.uptoBulkAll, List.length_cons]; omega
theorem bulk_mem {H : Type} {d : DataW H} : ∀ {l : List (DataW H)}, d ∈ l → Rows.uptoBulk d ≤ Rows.uptoBulkAll l
  | [], h => by cases h
  | x :: l, h => by
    simp only [Rows.uptoBulkAll]
    rcases List.mem_cons.1 h with rfl | h
    · omega
    · have := bulk_mem h; omega
theorem bulk_slice {H : Type} (es sp : List (DataW H)) : es.length + 1 ≤ Rows.uptoBulk (.slice es sp) := by have := bulk_len es; simp only [Rows.uptoBulk]; omega
theorem bulk_elems {H : Type} (es sp : List (DataW H)) : Rows.uptoBulkAll es + 1 ≤ Rows.uptoBulk (.slice es sp) := by simp only [Rows.uptoBulk]; omega
theorem bulk_parts {H : Type} (es : List (DataW H)) : Rows.uptoBulkAll es + 1 ≤ Rows.uptoBulk (.agg es) := by simp only [Rows.uptoBulk]; omega
theorem bulk_str {H : Type} (s : ByteArray) : s.size ≤ Rows.uptoBulk (DataW.lit (H := H) (.string s.data.toList)) := by
  simp only [Rows.uptoBulk]
  have : s.data.toList.length = s.size := by rw [Array.length_toList]; rfl
  omega
theorem bulk_ints {H : Type} {d : DataW H} {n : Nat} {zs : List Int} {f : Int → DataW H} (hz : zs.length = n) (h : (d = .nil ∧ n = 0) ∨ ∃ sp, d = .slice (zs.map f) sp) : n ≤ Rows.uptoBulk d := by
  rcases h with ⟨rfl, rfl⟩ | ⟨sp, rfl⟩
  · simp
  · have := bulk_slice (zs.map f) sp; simp at this; omega
theorem bulk_all {H : Type} {l : List (DataW H)} (hk : Rows.uptoSmall H l = true) : Rows.uptoBulkAll l ≤ 1048576 := of_decide_eq_true hk
theorem bulk_el {H : Type} (es sp : List (DataW H)) (d : DataW H) (h : d ∈ es) : Rows.uptoBulk d ≤ Rows.uptoBulk (.slice es sp) := by
  have := bulk_elems es sp
  have := bulk_mem h
  omega
theorem bulk_le {H : Type} (es sp : List (DataW H)) : es.length ≤ Rows.uptoBulk (.slice es sp) := by have := bulk_slice es sp; omega
end Go.Proofs.Ytlkeghfdpbfhbaa

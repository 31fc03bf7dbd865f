/- The greedy search's state, and what each step leaves of it. No walk. -/
import Derived.Test.YtlkeghfdpbfhbaaLkD
namespace Go.Proofs.Ytlkeghfdpbfhbaa
set_option linter.unusedVariables false
open Go.ChangeShapes Go.WideShapes Go.ChangeAt Go.RowKit

/-- No sign for any bytes has been met: what is left decides. -/
def FreeAt (l : List Sg) (s : List UInt8) (at' i : Nat) : Prop := matchS l s = matchS (l.drop i) (s.drop at')
/-- One stands at last, tried from fin on; the signs behind it fit the bytes up to at'. -/
def HeldAt (l : List Sg) (s : List UInt8) (at' i last fin : Nat) : Prop :=
  last < i ∧ fin ≤ at' ∧ l[last]? = some .all ∧ matchS l s = matchS (l.drop last) (s.drop fin) ∧ ∃ C, l.drop (last + 1) = C ++ l.drop i ∧ fitsL C ((s.drop fin).take (at' - fin)) = true
theorem free_fits {l : List Sg} {s : List UInt8} {a i : Nat} {g : Sg} {c : UInt8} (h : FreeAt l s a i) (hg : l[i]? = some g) (hc : s[a]? = some c) (h1 : g.isAll = false) (h2 : g.fits c = true) : FreeAt l s (a + 1) (i + 1) := by
  unfold FreeAt at *
  rw [h, drop_at hg, drop_at hc, match_single h1, h2]
  rfl
theorem free_not {l : List Sg} {s : List UInt8} {a i : Nat} {c : UInt8} (h : FreeAt l s a i) (hc : s[a]? = some c) (hn : ∀ g, l[i]? = some g → g.isAll = false ∧ g.fits c = false) : matchS l s = false := by
  rw [h, drop_at hc]
  cases hg : l[i]? with
  | none =>
    rw [List.drop_of_length_le (List.getElem?_eq_none_iff.1 hg), match_nil]
    rfl
  | some g =>
    rw [drop_at hg, match_single (hn g hg).1, (hn g hg).2]
    rfl
theorem free_end {l : List Sg} {s : List UInt8} {i : Nat} (h : FreeAt l s s.length i) : matchS l s = (l.drop i).all Sg.isAll := by
  rw [h, List.drop_of_length_le (Nat.le_refl _), match_empty]
theorem free_all {l : List Sg} {s : List UInt8} {a i : Nat} (h : FreeAt l s a i) (hg : l[i]? = some .all) : HeldAt l s a (i + 1) i a :=
  ⟨by omega, Nat.le_refl _, hg, h, [], rfl, by rw [Nat.sub_self]; rfl⟩
theorem drop_cut (s : List UInt8) {f a : Nat} (h : f ≤ a) : s.drop f = (s.drop f).take (a - f) ++ s.drop a := by
  conv => lhs; rw [← List.take_append_drop (a - f) (s.drop f)]
  rw [List.drop_drop, show f + (a - f) = a by omega]
theorem held_all {l : List Sg} {s : List UInt8} {a i last fin : Nat} (h : HeldAt l s a i last fin) (hg : l[i]? = some .all) : HeldAt l s a (i + 1) i a := by
  obtain ⟨h1, h2, h3, h4, C, h5, h6⟩ := h
  refine ⟨by omega, Nat.le_refl _, hg, ?_, [], rfl, by rw [Nat.sub_self]; rfl⟩
  rw [h4, drop_at h3, h5, drop_cut s h2, drop_at hg, match_later h6]
theorem held_fits {l : List Sg} {s : List UInt8} {a i last fin : Nat} {g : Sg} {c : UInt8} (h : HeldAt l s a i last fin) (hg : l[i]? = some g) (hc : s[a]? = some c) (g1 : g.isAll = false) (g2 : g.fits c = true) : HeldAt l s (a + 1) (i + 1) last fin := by
  obtain ⟨h1, h2, h3, h4, C, h5, h6⟩ := h
  refine ⟨by omega, by omega, h3, h4, C ++ [g], by rw [h5, drop_at hg]; simp, ?_⟩
  have e : (s.drop fin)[a - fin]? = some c := by rw [List.getElem?_drop, show fin + (a - fin) = a by omega, hc]
  rw [show a + 1 - fin = (a - fin) + 1 by omega, take_at e]
  exact fits_snoc C _ g c h6 g1 g2
theorem held_shift {l : List Sg} {s : List UInt8} {a i last fin : Nat} {c : UInt8} (h : HeldAt l s a i last fin) (hc : s[a]? = some c) (hn : ∀ g, l[i]? = some g → g.isAll = false ∧ g.fits c = false) : HeldAt l s (fin + 1) (last + 1) last (fin + 1) := by
  obtain ⟨h1, h2, h3, h4, C, h5, h6⟩ := h
  have hlt := (List.getElem?_eq_some_iff.1 hc).1
  refine ⟨by omega, Nat.le_refl _, h3, ?_, [], rfl, by rw [Nat.sub_self]; rfl⟩
  have hno : matchS (l.drop (last + 1)) (s.drop fin) = false := by
    rw [h5, drop_cut s h2, match_fits C _ _ _ h6]
    exact free_not (l := l.drop i) (s := s.drop a) (a := 0) (i := 0) rfl (by rw [List.getElem?_drop]; exact hc) (by intro g hg; rw [List.getElem?_drop] at hg; exact hn g hg)
  have hd : s[fin]? = some (s[fin]'(by omega)) := List.getElem?_eq_getElem (by omega)
  rw [drop_at hd] at hno
  rw [h4, drop_at h3, drop_at hd, match_shift hno]
theorem held_end {l : List Sg} {s : List UInt8} {i last fin : Nat} (h : HeldAt l s s.length i last fin) : matchS l s = (l.drop i).all Sg.isAll := by
  obtain ⟨h1, h2, h3, h4, C, h5, h6⟩ := h
  rw [List.take_of_length_le (by rw [List.length_drop]; omega)] at h6
  rw [h4, drop_at h3, h5, match_end h6, match_empty]
end Go.Proofs.Ytlkeghfdpbfhbaa

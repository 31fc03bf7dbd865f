/- Patterns and texts: what a pattern's signs match; the greedy search's steps. No walk. -/
import Derived.Test.YtlkeghfdpbfhbaaLib
namespace Go.Proofs.Ytlkeghfdpbfhbaa
set_option linter.unusedVariables false
open Go.ChangeShapes Go.WideShapes Go.ChangeAt Go.RowKit

/-- A sign of a pattern: a byte, any byte, any bytes. -/
inductive Sg where
  | byte (b : UInt8)
  | one
  | all
def Sg.fits : Sg → UInt8 → Bool
  | .byte b, c => b == c
  | .one, _ => true
  | .all, _ => false
def Sg.isAll : Sg → Bool
  | .all => true
  | _ => false
/-- The signs match the whole of the text. -/
def matchS : List Sg → List UInt8 → Bool
  | [], s => s.isEmpty
  | .all :: p, [] => matchS p []
  | .all :: p, c :: s => matchS p (c :: s) || matchS (.all :: p) s
  | .byte _ :: _, [] => false
  | .one :: _, [] => false
  | .byte b :: p, c :: s => b == c && matchS p s
  | .one :: p, _ :: s => matchS p s
termination_by p s => p.length + s.length
theorem match_nil (s : List UInt8) : matchS [] s = s.isEmpty := by rw [matchS]
theorem match_all_nil (p : List Sg) : matchS (.all :: p) [] = matchS p [] := by rw [matchS]
theorem match_all_cons (p : List Sg) (c : UInt8) (s : List UInt8) : matchS (.all :: p) (c :: s) = (matchS p (c :: s) || matchS (.all :: p) s) := by rw [matchS]
theorem match_single_nil {g : Sg} (h : g.isAll = false) (p : List Sg) : matchS (g :: p) [] = false := by
  cases g with
  | byte b => rw [matchS]
  | one => rw [matchS]
  | all => cases h
theorem match_single {g : Sg} (h : g.isAll = false) (p : List Sg) (c : UInt8) (s : List UInt8) : matchS (g :: p) (c :: s) = (g.fits c && matchS p s) := by
  cases g with
  | byte b => rw [matchS]; rfl
  | one => rw [matchS]; rfl
  | all => cases h
/-- A sign that any bytes match, ahead: some rest is matched. -/
theorem match_all_iff (p : List Sg) : ∀ s : List UInt8, matchS (.all :: p) s = true ↔ ∃ x y, s = x ++ y ∧ matchS p y = true
  | [] => by
    rw [match_all_nil]
    constructor
    · intro h; exact ⟨[], [], rfl, h⟩
    · rintro ⟨x, y, e, h⟩
      have : y = [] := by
        have := congrArg List.length e
        rw [List.length_append, List.length_nil] at this
        exact List.eq_nil_of_length_eq_zero (by omega)
      rw [this] at h
      exact h
  | c :: s => by
    rw [match_all_cons, Bool.or_eq_true, match_all_iff p s]
    constructor
    · rintro (h | ⟨x, y, e, h⟩)
      · exact ⟨[], c :: s, rfl, h⟩
      · exact ⟨c :: x, y, by rw [e]; rfl, h⟩
    · rintro ⟨x, y, e, h⟩
      match x with
      | [] => left; rw [e]; exact h
      | d :: x =>
        right
        rw [List.cons_append] at e
        injection e with _ e
        exact ⟨x, y, e, h⟩
/-- Single signs, one for each byte. -/
def fitsL : List Sg → List UInt8 → Bool
  | [], [] => true
  | g :: p, c :: s => !g.isAll && g.fits c && fitsL p s
  | _, _ => false
theorem fits_len : ∀ (p : List Sg) (s : List UInt8), fitsL p s = true → p.length = s.length
  | [], [], _ => rfl
  | g :: p, c :: s, h => by
    rw [fitsL, Bool.and_eq_true] at h
    rw [List.length_cons, List.length_cons, fits_len p s h.2]
  | [], _ :: _, h => by cases h
  | _ :: _, [], h => by cases h
theorem fits_snoc : ∀ (p : List Sg) (s : List UInt8) (g : Sg) (c : UInt8), fitsL p s = true → g.isAll = false → g.fits c = true → fitsL (p ++ [g]) (s ++ [c]) = true
  | [], [], g, c, _, h1, h2 => by simp [fitsL, h1, h2]
  | q :: p, d :: s, g, c, h, h1, h2 => by
    rw [fitsL, Bool.and_eq_true] at h
    rw [List.cons_append, List.cons_append, fitsL, h.1, fits_snoc p s g c h.2 h1 h2]
    rfl
  | [], _ :: _, _, _, h, _, _ => by cases h
  | _ :: _, [], _, _, h, _, _ => by cases h
theorem match_fits : ∀ (p : List Sg) (s : List UInt8) (q : List Sg) (t : List UInt8), fitsL p s = true → matchS (p ++ q) (s ++ t) = matchS q t
  | [], [], _, _, _ => rfl
  | g :: p, c :: s, q, t, h => by
    rw [fitsL, Bool.and_eq_true, Bool.and_eq_true, Bool.not_eq_true'] at h
    rw [List.cons_append, List.cons_append, match_single h.1.1, h.1.2, match_fits p s q t h.2]
    rfl
  | [], _ :: _, _, _, h => by cases h
  | _ :: _, [], _, _, h => by cases h
/-- Single signs take as many bytes as they are. -/
theorem match_singles : ∀ (p : List Sg) (q : List Sg) (s : List UInt8), (∀ g ∈ p, g.isAll = false) → matchS (p ++ q) s = true → ∃ t, s.length = p.length + t.length ∧ (∃ u, s = u ++ t) ∧ matchS q t = true
  | [], q, s, _, h => ⟨s, by simp, ⟨[], rfl⟩, h⟩
  | g :: p, q, [], hp, h => by
    rw [List.cons_append, match_single_nil (hp g List.mem_cons_self)] at h
    cases h
  | g :: p, q, c :: s, hp, h => by
    rw [List.cons_append, match_single (hp g List.mem_cons_self), Bool.and_eq_true] at h
    obtain ⟨t, h1, ⟨u, h2⟩, h3⟩ := match_singles p q s (fun x hx => hp x (List.mem_cons_of_mem _ hx)) h.2
    exact ⟨t, by rw [List.length_cons, List.length_cons]; omega, ⟨c :: u, by rw [h2]; rfl⟩, h3⟩
theorem fits_single : ∀ (p : List Sg) (s : List UInt8), fitsL p s = true → ∀ g ∈ p, g.isAll = false
  | [], _, _, g, hg => by cases hg
  | q :: p, c :: s, h, g, hg => by
    rw [fitsL, Bool.and_eq_true, Bool.and_eq_true, Bool.not_eq_true'] at h
    rcases List.mem_cons.1 hg with rfl | hg
    · exact h.1.1
    · exact fits_single p s h.2 g hg
  | _ :: _, [], h, _, _ => by cases h
/-- Behind a sign that any bytes match, signs that fit, and another such sign: only the later one need be lengthened. -/
theorem match_later {C : List Sg} {x : List UInt8} (h : fitsL C x = true) (D : List Sg) (y : List UInt8) : matchS (.all :: (C ++ .all :: D)) (x ++ y) = matchS (.all :: D) y := by
  rw [Bool.eq_iff_iff]
  constructor
  · intro hm
    obtain ⟨u, v, e, hv⟩ := (match_all_iff _ _).1 hm
    obtain ⟨t, h1, ⟨z, h2⟩, h3⟩ := match_singles C (.all :: D) v (fits_single C x h) hv
    obtain ⟨a, b, e2, hb⟩ := (match_all_iff _ _).1 h3
    have hl := fits_len C x h
    have hle : x.length ≤ u.length + z.length := by
      have := congrArg List.length h2
      rw [List.length_append] at this
      omega
    -- y = (rest of u ++ z) ++ t
    have e3 : x ++ y = (u ++ z) ++ t := by rw [e, h2, List.append_assoc]
    refine (match_all_iff _ _).2 ⟨(u ++ z).drop x.length ++ a, b, ?_, hb⟩
    have e4 : y = (x ++ y).drop x.length := by rw [List.drop_left]
    rw [e4, e3, List.drop_append_of_le_length (by rw [List.length_append]; omega), e2, List.append_assoc]
  · intro hm
    exact (match_all_iff _ _).2 ⟨[], x ++ y, rfl, by rw [match_fits C x _ y h]; exact hm⟩
/-- Where the signs behind one that any bytes match do not match here: one byte further. -/
theorem match_shift {R : List Sg} {c : UInt8} {s : List UInt8} (h : matchS R (c :: s) = false) : matchS (.all :: R) (c :: s) = matchS (.all :: R) s := by
  rw [match_all_cons, h]
  rfl
/-- At the end of the text: what fits takes all of it. -/
theorem match_end {C : List Sg} {x : List UInt8} (h : fitsL C x = true) (D : List Sg) : matchS (.all :: (C ++ D)) x = matchS D [] := by
  rw [Bool.eq_iff_iff]
  constructor
  · intro hm
    obtain ⟨u, v, e, hv⟩ := (match_all_iff _ _).1 hm
    obtain ⟨t, h1, ⟨z, h2⟩, h3⟩ := match_singles C D v (fits_single C x h) hv
    have hl := fits_len C x h
    have : x.length = u.length + v.length := by rw [e, List.length_append]
    have : t = [] := List.eq_nil_of_length_eq_zero (by omega)
    rw [this] at h3
    exact h3
  · intro hm
    refine (match_all_iff _ _).2 ⟨[], x, rfl, ?_⟩
    have := match_fits C x D [] h
    rw [List.append_nil] at this
    rw [this]
    exact hm
theorem match_empty : ∀ p : List Sg, matchS p [] = p.all Sg.isAll
  | [] => by rw [matchS]; rfl
  | .all :: p => by rw [match_all_nil, match_empty p]; rfl
  | .byte b :: p => by rw [match_single_nil rfl]; rfl
  | .one :: p => by rw [match_single_nil rfl]; rfl
end Go.Proofs.Ytlkeghfdpbfhbaa

/- Signs of a pattern's bytes, the pattern of a text, patterns one behind the other; what the reference's table holds. No walk. -/
import Derived.Test.YtlkeghfdpbfhbaaLkM
namespace Go.Proofs.Ytlkeghfdpbfhbaa
set_option linter.unusedVariables false
open Go.ChangeShapes Go.WideShapes Go.ChangeAt Go.RowKit

theorem match_app_iff : ∀ (p q : List Sg) (s : List UInt8), matchS (p ++ q) s = true ↔ ∃ x y, s = x ++ y ∧ matchS p x = true ∧ matchS q y = true
  | [], q, s => by
    constructor
    · intro h; exact ⟨[], s, rfl, by rw [match_nil]; rfl, h⟩
    · rintro ⟨x, y, e, h1, h2⟩
      rw [match_nil, List.isEmpty_iff] at h1
      rw [e, h1]
      exact h2
  | .all :: p, q, s => by
    rw [List.cons_append, match_all_iff]
    constructor
    · rintro ⟨x, y, e, h⟩
      obtain ⟨a, b, e2, h1, h2⟩ := (match_app_iff p q y).1 h
      exact ⟨x ++ a, b, by rw [e, e2, List.append_assoc], (match_all_iff _ _).2 ⟨x, a, rfl, h1⟩, h2⟩
    · rintro ⟨x, y, e, h1, h2⟩
      obtain ⟨a, b, e2, h3⟩ := (match_all_iff _ _).1 h1
      exact ⟨a, b ++ y, by rw [e, e2, List.append_assoc], (match_app_iff p q _).2 ⟨b, y, rfl, h3, h2⟩⟩
  | .byte b :: p, q, s => match_app_single rfl p q s (fun t => match_app_iff p q t)
  | .one :: p, q, s => match_app_single rfl p q s (fun t => match_app_iff p q t)
where
  match_app_single {g : Sg} (hg : g.isAll = false) (p q : List Sg) : ∀ s : List UInt8, (∀ t, matchS (p ++ q) t = true ↔ ∃ x y, t = x ++ y ∧ matchS p x = true ∧ matchS q y = true) → (matchS (g :: p ++ q) s = true ↔ ∃ x y, s = x ++ y ∧ matchS (g :: p) x = true ∧ matchS q y = true)
    | [], _ => by
      rw [List.cons_append, match_single_nil hg]
      constructor
      · intro h; cases h
      · rintro ⟨x, y, e, h1, _⟩
        have : x = [] := (List.append_eq_nil_iff.1 e.symm).1
        rw [this, match_single_nil hg] at h1
        cases h1
    | c :: s, ih => by
      rw [List.cons_append, match_single hg, Bool.and_eq_true, ih]
      constructor
      · rintro ⟨hf, x, y, e, h1, h2⟩
        exact ⟨c :: x, y, by rw [e]; rfl, by rw [match_single hg, hf, h1]; rfl, h2⟩
      · rintro ⟨x, y, e, h1, h2⟩
        match x with
        | [] => rw [match_single_nil hg] at h1; cases h1
        | d :: x =>
          rw [List.cons_append] at e
          injection e with e1 e
          subst e1
          rw [match_single hg, Bool.and_eq_true] at h1
          exact ⟨h1.1, x, y, e, h1.2, h2⟩
theorem match_app {p q : List Sg} {s t : List UInt8} (h1 : matchS p s = true) (h2 : matchS q t = true) : matchS (p ++ q) (s ++ t) = true := (match_app_iff p q _).2 ⟨s, t, rfl, h1, h2⟩
/-- The last sign: any bytes. -/
theorem match_snoc_all (p : List Sg) (s : List UInt8) (c : UInt8) : matchS (p ++ [.all]) (s ++ [c]) = (matchS p (s ++ [c]) || matchS (p ++ [.all]) s) := by
  have hall : ∀ y, matchS [.all] y = true := fun y => (match_all_iff [] y).2 ⟨y, [], by simp, by rw [match_nil]; rfl⟩
  rw [Bool.eq_iff_iff, Bool.or_eq_true, match_app_iff, match_app_iff]
  constructor
  · rintro ⟨x, y, e, h1, _⟩
    rcases List.eq_nil_or_concat y with rfl | ⟨z, d, rfl⟩
    · left
      rw [List.append_nil] at e
      rw [e]
      exact h1
    · right
      rw [List.concat_eq_append, ← List.append_assoc] at e
      have := List.append_inj_left' e rfl
      exact ⟨x, z, this, h1, hall z⟩
  · rintro (h | ⟨x, y, e, h1, _⟩)
    · exact ⟨s ++ [c], [], by simp, h, hall []⟩
    · exact ⟨x, y ++ [c], by rw [e, List.append_assoc], h1, hall _⟩
theorem match_snoc_all_nil (p : List Sg) : matchS (p ++ [.all]) [] = matchS p [] := by
  rw [match_empty, match_empty, List.all_append]
  simp [Sg.isAll]
/-- The last sign: one byte. -/
theorem match_snoc_single (p : List Sg) {g : Sg} (hg : g.isAll = false) (s : List UInt8) (c : UInt8) : matchS (p ++ [g]) (s ++ [c]) = (g.fits c && matchS p s) := by
  rw [Bool.eq_iff_iff, Bool.and_eq_true, match_app_iff]
  constructor
  · rintro ⟨x, y, e, h1, h2⟩
    match y with
    | [] => rw [match_single_nil hg] at h2; cases h2
    | [d] =>
      have e1 := List.append_inj_left' e rfl
      have e2 := List.append_inj_right' e rfl
      injection e2 with e2
      rw [match_single hg, Bool.and_eq_true] at h2
      rw [e1, e2]
      exact ⟨h2.1, h1⟩
    | d :: d2 :: y =>
      rw [match_single hg, Bool.and_eq_true, match_nil] at h2
      cases h2.2
  · rintro ⟨h1, h2⟩
    exact ⟨s, [c], rfl, h2, by rw [match_single hg, h1, match_nil]; rfl⟩
theorem match_snoc_single_nil (p : List Sg) {g : Sg} (hg : g.isAll = false) : matchS (p ++ [g]) [] = false := by
  rw [match_empty, List.all_append]
  simp [hg]
def specialB (c : UInt8) : Bool := c == 37 || c == 95 || c == 92
def sgOf (c : UInt8) : Sg := if c = 37 then .all else if c = 95 then .one else .byte c
def signsL : List UInt8 → List Sg
  | [] => []
  | [c] => [sgOf c]
  | c :: d :: r => if c = 92 ∧ specialB d = true then .byte d :: signsL r else sgOf c :: signsL (d :: r)
def quoteL (s : List UInt8) : List UInt8 := (s.map fun c => if specialB c then [92, c] else [c]).flatten
theorem signs_one {c : UInt8} (h : c ≠ 92) (p : List UInt8) : signsL (c :: p) = sgOf c :: signsL p := by
  match p with
  | [] => rfl
  | d :: r => rw [signsL, if_neg (fun e => h e.1)]
theorem signs_esc {d : UInt8} (h : specialB d = true) (p : List UInt8) : signsL (92 :: d :: p) = .byte d :: signsL p := by rw [signsL, if_pos ⟨rfl, h⟩]
theorem not_special {c : UInt8} (h : specialB c = false) : c ≠ 92 ∧ sgOf c = .byte c := by
  unfold specialB at h
  simp only [Bool.or_eq_false_iff, beq_eq_false_iff_ne] at h
  exact ⟨h.2, by unfold sgOf; rw [if_neg h.1.1, if_neg h.1.2]⟩
theorem signs_quote : ∀ (s p : List UInt8), signsL (quoteL s ++ p) = s.map Sg.byte ++ signsL p
  | [], p => rfl
  | c :: s, p => by
    have ih := signs_quote s p
    have e : quoteL (c :: s) = (if specialB c then [92, c] else [c]) ++ quoteL s := rfl
    rw [e]
    by_cases h : specialB c = true
    · rw [if_pos h]
      show signsL (92 :: c :: (quoteL s ++ p)) = _
      rw [signs_esc h, ih]
      rfl
    · rw [if_neg h]
      obtain ⟨h1, h2⟩ := not_special (by simpa using h)
      show signsL (c :: (quoteL s ++ p)) = _
      rw [signs_one h1, h2, ih]
      rfl
theorem signs_app : ∀ (p q : List UInt8), p.getLast? ≠ some 92 → signsL (p ++ q) = signsL p ++ signsL q
  | [], q, _ => rfl
  | [c], q, h => by
    have hc : c ≠ 92 := fun e => h (by rw [e]; rfl)
    show signsL (c :: q) = _
    rw [signs_one hc]
    rfl
  | c :: d :: r, q, h => by
    have hl : (d :: r).getLast? ≠ some 92 := by rwa [List.getLast?_cons_cons] at h
    show signsL (c :: d :: (r ++ q)) = _
    by_cases he : c = 92 ∧ specialB d = true
    · have hr : r.getLast? ≠ some 92 := by
        match r with
        | [] => intro e; cases e
        | x :: r => rwa [List.getLast?_cons_cons] at hl
      rw [signsL, if_pos he, signsL, if_pos he, signs_app r q hr]
      rfl
    · have := signs_app (d :: r) q hl
      rw [List.cons_append] at this
      rw [signsL, if_neg he, signsL, if_neg he, this]
      rfl
/-- Bytes match just themselves. -/
theorem match_bytes : ∀ (p s : List UInt8), matchS (p.map Sg.byte) s = (p == s)
  | [], s => by rw [List.map_nil, match_nil]; cases s <;> rfl
  | c :: p, [] => by rw [List.map_cons, match_single_nil rfl]; rfl
  | c :: p, d :: s => by
    rw [List.map_cons, match_single rfl, match_bytes p s]
    rfl
/-- As many signs for one byte as there are bytes. -/
theorem match_ones : ∀ (n : Nat) (s : List UInt8), matchS (List.replicate n Sg.one) s = (s.length == n)
  | 0, s => by rw [List.replicate_zero, match_nil]; cases s <;> rfl
  | n + 1, [] => by rw [List.replicate_succ, match_single_nil rfl]; rfl
  | n + 1, c :: s => by
    rw [List.replicate_succ, match_single rfl, match_ones n s, List.length_cons]
    simp [Sg.fits]
end Go.Proofs.Ytlkeghfdpbfhbaa

/- The order of rows. No walk. -/
import Derived.Test.YtahdkfenpflahaaValM
namespace Go.Proofs.Ytahdkfenpflahaa
set_option linter.unusedVariables false

theorem cmpV_refl (a : ValV) : cmpV a a = 0 := cmpV_zero.2 rfl
theorem cmpR_refl : ∀ r : List ValV, cmpR r r = 0
  | [] => rfl
  | a :: l => by simp only [cmpR, cmpV_refl, if_true, cmpR_refl l]
theorem cmpR_neg : ∀ r s : List ValV, cmpR s r = -cmpR r s
  | [], [] => rfl
  | [], _ :: _ => rfl
  | _ :: _, [] => rfl
  | a :: l, b :: m => by
    have h1 := cmpV_neg a b
    have h2 := cmpR_neg l m
    simp only [cmpR]
    by_cases h : cmpV a b = 0
    · rw [if_pos h, if_pos (by omega), h2]
    · rw [if_neg h, if_neg (by omega), h1]
theorem cmpR_trans : ∀ r s t : List ValV, cmpR r s ≤ 0 → cmpR s t ≤ 0 → cmpR r t ≤ 0
  | [], s, [], _, _ => by simp [cmpR]
  | [], s, _ :: _, _, _ => by simp [cmpR]
  | _ :: _, [], t, h, _ => by simp [cmpR] at h
  | _ :: _, _ :: _, [], _, h => by simp [cmpR] at h
  | a :: l, b :: m, c :: k, h, g => by
    simp only [cmpR] at *
    have tr := cmpV_trans a b c
    have lv := cmpV_level a b c
    have ih := cmpR_trans l m k
    by_cases h1 : cmpV a b = 0
    · rw [if_pos h1] at h
      by_cases h2 : cmpV b c = 0
      · rw [if_pos h2] at g
        have e1 := cmpV_zero.1 h1
        have e2 := cmpV_zero.1 h2
        rw [if_pos (by rw [e1, e2]; exact cmpV_refl c)]
        exact ih h g
      · rw [if_neg h2] at g
        have e1 := cmpV_zero.1 h1
        rw [e1, if_neg h2]
        exact g
    · rw [if_neg h1] at h
      have gg : cmpV b c ≤ 0 := by
        by_cases h2 : cmpV b c = 0
        · omega
        · rw [if_neg h2] at g; exact g
      have t3 := tr h gg
      by_cases h3 : cmpV a c = 0
      · exact absurd (lv h gg h3).1 h1
      · rw [if_neg h3]; exact t3
theorem cmpR_more : ∀ (r : List ValV) (v : ValV), cmpR r (r ++ [v]) = -1
  | [], v => rfl
  | a :: l, v => by
    simp only [List.cons_append, cmpR, cmpV_refl, if_true]
    exact cmpR_more l v
theorem cmpR_ahead : ∀ (r s : List ValV) (v : ValV), cmpR r s < 0 → s.length ≤ r.length → cmpR (r ++ [v]) s ≤ 0
  | [], [], v, h, _ => by simp [cmpR] at h
  | [], _ :: _, v, _, h => by simp at h
  | _ :: _, [], v, h, _ => by simp [cmpR] at h
  | a :: l, b :: m, v, h, g => by
    simp only [List.cons_append, cmpR] at *
    by_cases h1 : cmpV a b = 0
    · rw [if_pos h1] at *
      exact cmpR_ahead l m v h (by simpa using g)
    · rw [if_neg h1] at *
      omega
end Go.Proofs.Ytahdkfenpflahaa

/- Mathematics: how long tokens are; the next one; all of them. No walk. -/
import Derived.Test.YtcmhnaanfkpheaaDoorLxR
namespace Go.Proofs.YtcmhnaanfkpheaaDoor
set_option linter.unusedVariables false

theorem textS_le : ∀ {l : List UInt8} {n : Nat} {t : List UInt8}, textS l = some (n, t) → n + 1 ≤ l.length ∧ t.length ≤ n
  | [], n, t, h => by rw [textS] at h; cases h
  | [c], n, t, h => by
    rw [textS] at h
    by_cases hc : (c == 39) = true
    · rw [if_pos hc] at h
      injection h with h
      injection h with h1 h2
      subst h1 h2
      simp
    · rw [if_neg hc, textS] at h
      cases h
  | c :: d :: m, n, t, h => by
    rw [textS] at h
    by_cases hc : (c == 39) = true
    · rw [if_pos hc] at h
      by_cases hd : (d == 39) = true
      · rw [if_pos hd] at h
        obtain ⟨⟨n', t'⟩, h1, h2⟩ := Option.map_eq_some_iff.1 h
        injection h2 with h3 h4
        have := textS_le h1
        simp only at h3 h4
        subst h3 h4
        simp only [List.length_cons]
        omega
      · rw [if_neg hd] at h
        injection h with h
        injection h with h1 h2
        subst h1 h2
        simp
    · rw [if_neg hc] at h
      obtain ⟨⟨n', t'⟩, h1, h2⟩ := Option.map_eq_some_iff.1 h
      injection h2 with h3 h4
      have := textS_le h1
      simp only at h3 h4
      subst h3 h4
      simp only [List.length_cons] at this ⊢
      omega
theorem signB_le : ∀ l : List UInt8, signB l ≤ l.length
  | [] => Nat.le_refl _
  | [c] => by
    unfold signB
    simp only [List.head?_nil, List.length_cons, List.length_nil]
    (repeat' split) <;> simp_all
  | c :: d :: l => by
    unfold signB
    simp only [List.length_cons]
    (repeat' split) <;> omega
/-- A token is at least one byte, and lies within what is left. -/
theorem tok_size (l : List UInt8) (h : (tokL l).err = 0) : 1 ≤ (tokL l).size ∧ (tokL l).size ≤ l.length ∧ 1 ≤ (tokL l).kind := by
  match l, h with
  | [], h => exact absurd h (by decide)
  | c :: l, h =>
    rw [tokL] at h ⊢
    by_cases h1 : (lowB c || upB c) = true
    · rw [if_pos h1] at h ⊢
      have hw : wordB c = true := by unfold wordB; rw [h1]; rfl
      have hn := run_cons (l := l) hw
      have hle := run_le wordB (c :: l)
      unfold tokWord at h ⊢
      simp only at h ⊢
      split at h
      · rw [if_pos (by assumption)]; exact ⟨by show 1 ≤ runB wordB (c :: l); omega, hle, Nat.le_refl _⟩
      · rw [if_neg (by assumption)]
        split at h
        · exact absurd h (by decide)
        · rw [if_neg (by assumption)]; exact ⟨by show 1 ≤ runB wordB (c :: l); omega, hle, by show 1 ≤ 2; omega⟩
    rw [if_neg h1] at h ⊢
    by_cases h2 : digB c = true
    · rw [if_pos h2] at h ⊢
      have hn := run_cons (l := l) h2
      have hle := run_le digB (c :: l)
      unfold tokNum at h ⊢
      split at h
      · exact absurd h (by decide)
      · rw [if_neg (by assumption)]; exact ⟨by show 1 ≤ runB digB (c :: l); omega, hle, by show 1 ≤ 3; omega⟩
    rw [if_neg h2] at h ⊢
    by_cases h3 : (c == 34) = true
    · rw [if_pos h3] at h ⊢
      unfold tokName at h ⊢
      simp only [List.drop_succ_cons, List.drop_zero] at h ⊢
      split at h
      · exact absurd h (by decide)
      rename_i hn
      rw [if_neg hn]
      split at h
      · exact absurd h (by decide)
      rw [if_neg (by assumption)]
      split at h
      · exact absurd h (by decide)
      rw [if_neg (by assumption)]
      exact ⟨by show 1 ≤ runB (fun c => c != 34) l + 2; omega, by show runB (fun c => c != 34) l + 2 ≤ _; omega, by show 1 ≤ 2; omega⟩
    rw [if_neg h3] at h ⊢
    by_cases h4 : (c == 39) = true
    · rw [if_pos h4] at h ⊢
      unfold tokText at h ⊢
      simp only [List.drop_succ_cons, List.drop_zero] at h ⊢
      split at h
      · exact absurd h (by decide)
      rename_i n t ht
      have hle := textS_le ht
      split at h
      · exact absurd h (by decide)
      rw [if_neg (by assumption)]
      split at h
      · exact absurd h (by decide)
      rw [if_neg (by assumption)]
      exact ⟨by show 1 ≤ n + 2; omega, by show n + 2 ≤ l.length + 1; omega, by show 1 ≤ 4; omega⟩
    rw [if_neg h4] at h ⊢
    have hle := signB_le (c :: l)
    unfold tokSign at h ⊢
    split at h
    · exact absurd h (by decide)
    rename_i hs
    rw [if_neg hs]
    have hs0 : signB (c :: l) ≠ 0 := by simpa using hs
    exact ⟨by show 1 ≤ signB (c :: l); omega, hle, by show 1 ≤ 5; omega⟩
/-- A token and its place. -/
structure TokA where
  at_ : Nat
  t : Tok
def nextAt (l : List UInt8) (a : Nat) : TokA :=
  let k := a + skipS false (l.drop a)
  if k = l.length then ⟨k, tokBad 0⟩ else ⟨k, tokL (l.drop k)⟩
/-- All tokens from a place on; or where the first error is, and which. -/
def tokensF (l : List UInt8) : Nat → Nat → List TokA × Nat × Nat
  | 0, _ => ([], 0, 0)
  | f + 1, a =>
    let x := nextAt l a
    if x.t.err ≠ 0 then ([], x.at_, x.t.err) else if x.t.kind = 0 then ([], 0, 0) else
      let r := tokensF l f (x.at_ + x.t.size)
      if r.2.2 ≠ 0 then ([], r.2) else (x :: r.1, 0, 0)
end Go.Proofs.YtcmhnaanfkpheaaDoor

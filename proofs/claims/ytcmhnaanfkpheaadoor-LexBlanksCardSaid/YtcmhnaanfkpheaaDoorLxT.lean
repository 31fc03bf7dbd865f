/- Mathematics: quotes doubled, and single again. No walk. -/
import Derived.Test.YtcmhnaanfkpheaaDoorLxK
import Derived.Lib.Replace
namespace Go.Proofs.YtcmhnaanfkpheaaDoor
set_option linter.unusedVariables false

def dq : List UInt8 → List UInt8
  | [] => []
  | c :: l => if c = 39 then 39 :: 39 :: dq l else c :: dq l
theorem dq_len : ∀ l : List UInt8, (dq l).length ≤ 2 * l.length ∧ l.length ≤ (dq l).length
  | [] => by simp [dq]
  | c :: l => by
    have := dq_len l
    simp only [dq]
    split <;> simp <;> omega
theorem index_skip {c : UInt8} (l : List UInt8) (h : c ≠ 39) : Lib.index (c :: l) [39, 39] = if Lib.index l [39, 39] == -1 then -1 else Lib.index l [39, 39] + 1 := by
  have hb : ([39, 39] : List UInt8).isPrefixOf (c :: l) = false := by
    have h0 : ¬ (39 : UInt8) = c := fun e => h e.symm
    simp [List.isPrefixOf, h0]
  rw [Lib.index, hb, if_neg (by decide)]
theorem count_skip {c : UInt8} (l : List UInt8) (h : c ≠ 39) : Lib.count (c :: l) [39, 39] = Lib.count l [39, 39] := by
  have hi := index_skip l h
  by_cases hm : Lib.index l [39, 39] = -1
  · rw [hm, if_pos (by decide)] at hi
    rw [Lib.count_miss hm, Lib.count_miss hi]
  · have hge := Lib.index_ge l [39, 39]
    rw [if_neg (by rw [beq_iff_eq]; exact hm)] at hi
    obtain ⟨i, hj⟩ : ∃ i : Nat, Lib.index l [39, 39] = i := ⟨(Lib.index l [39, 39]).toNat, by omega⟩
    rw [hj] at hi
    have hi2 : Lib.index (c :: l) [39, 39] = ((i + 1 : Nat) : Int) := by rw [hi]; omega
    rw [Lib.count_hit (by decide) hj, Lib.count_hit (by decide) hi2]
    congr 2
theorem unquote_k : ∀ t : List UInt8, Lib.replaceK [39, 39] [39] (Lib.count (dq t) [39, 39]) (dq t) = t
  | [] => by
    have h : Lib.count (dq []) [39, 39] = 0 := Lib.count_miss (by decide)
    rw [h]; rfl
  | c :: t => by
    have ih := unquote_k t
    by_cases h : c = 39
    · subst h
      have hq : dq (39 :: t) = 39 :: 39 :: dq t := by simp [dq]
      have hi : Lib.index (39 :: 39 :: dq t) [39, 39] = (0 : Nat) := by simp [Lib.index]
      have hc := Lib.count_hit (sub := [39, 39]) (by decide) hi
      rw [show (39 :: 39 :: dq t).drop (0 + ([39, 39] : List UInt8).length) = dq t from rfl, Nat.add_comm] at hc
      rw [hq, hc, Lib.replaceK_hit _ _ _ _ 0 hi]
      simp [ih]
    · have hq : dq (c :: t) = c :: dq t := by simp [dq, h]
      have hi := index_skip (dq t) h
      rw [hq, count_skip _ h]
      cases hk : Lib.count (dq t) [39, 39] with
      | zero => rw [hk] at ih; exact congrArg (c :: ·) ih
      | succ k =>
        rw [hk] at ih
        obtain ⟨i, hj⟩ := Lib.index_of_count (s := dq t) (old := [39, 39]) (by omega)
        rw [hj, if_neg (by rw [beq_iff_eq]; omega)] at hi
        have hi2 : Lib.index (c :: dq t) [39, 39] = ((i + 1 : Nat) : Int) := by rw [hi]; omega
        rw [Lib.replaceK_hit _ _ _ _ i hj] at ih
        rw [Lib.replaceK_hit _ _ _ _ (i + 1) hi2]
        rw [List.take_succ_cons, List.cons_append, List.cons_append, show i + 1 + ([39, 39] : List UInt8).length = (i + ([39, 39] : List UInt8).length) + 1 from by omega, List.drop_succ_cons, ih]
theorem unquote (t : List UInt8) : Lib.replaceAll (dq t) [39, 39] [39] = t := by
  unfold Lib.replaceAll Lib.replace Lib.replaceNum
  rw [if_neg (by decide), if_pos (by omega)]
  exact unquote_k t
/-- A text's own bytes, up to its end, are its text with quotes doubled. -/
theorem textS_dq : ∀ {l : List UInt8} {n : Nat} {t : List UInt8}, textS l = some (n, t) → l.take n = dq t
  | [], n, t, h => by rw [textS] at h; cases h
  | [c], n, t, h => by
    rw [textS] at h
    by_cases hc : (c == 39) = true
    · rw [if_pos hc] at h
      injection h with h
      injection h with h1 h2
      subst h1 h2
      rfl
    · rw [if_neg hc, textS] at h
      cases h
  | c :: d :: m, n, t, h => by
    rw [textS] at h
    by_cases hc : (c == 39) = true
    · rw [if_pos hc] at h
      by_cases hd : (d == 39) = true
      · rw [if_pos hd] at h
        obtain ⟨⟨n', t'⟩, h1, h2⟩ := Option.map_eq_some_iff.1 h
        injection h2 with h3 h4
        have := textS_dq h1
        simp only at h3 h4
        subst h3 h4
        rw [beq_iff_eq] at hc hd
        subst hc hd
        rw [List.take_succ_cons, List.take_succ_cons, this]
        simp [dq]
      · rw [if_neg hd] at h
        injection h with h
        injection h with h1 h2
        subst h1 h2
        rfl
    · rw [if_neg hc] at h
      obtain ⟨⟨n', t'⟩, h1, h2⟩ := Option.map_eq_some_iff.1 h
      injection h2 with h3 h4
      have := textS_dq h1
      simp only at h3 h4
      subst h3 h4
      have hne : c ≠ 39 := by simpa using hc
      rw [List.take_succ_cons, this]
      simp [dq, hne]
theorem textS_skip {c : UInt8} (l : List UInt8) (hc : c ≠ 39) : textS (c :: l) = (textS l).map fun p => (p.1 + 1, c :: p.2) := by
  have hn : ¬ (c == 39) = true := by simpa using hc
  cases l with
  | nil => conv => lhs; rw [textS, if_neg hn]
  | cons d m => rw [textS, if_neg hn]
theorem textS_end {l : List UInt8} (h : l.head? ≠ some 39) : textS (39 :: l) = some (0, []) := by
  cases l with
  | nil => rfl
  | cons d m =>
    have : ¬ (d == 39) = true := fun e => h (by rw [beq_iff_eq] at e; rw [e]; rfl)
    rw [textS, if_pos (by decide), if_neg this]
/-- How far a text reaches behind its first quote. -/
def endS (l : List UInt8) (k : Nat) : Option Nat := (textS (l.drop k)).map fun p => k + p.1
theorem ends_none {l : List UInt8} {k : Nat} (h : l.length ≤ k) : endS l k = none := by unfold endS; rw [List.drop_of_length_le h]; rfl
theorem ends_step {l : List UInt8} {k : Nat} {c : UInt8} (h : l.drop k = c :: l.drop (k + 1)) (hc : c ≠ 39) : endS l k = endS l (k + 1) := by
  unfold endS
  rw [h, textS_skip _ hc, Option.map_map]
  congr 1
  funext p
  simp only [Function.comp]
  omega
theorem ends_two {l : List UInt8} {k : Nat} (h : l.drop k = 39 :: l.drop (k + 1)) (h2 : l.drop (k + 1) = 39 :: l.drop (k + 2)) : endS l k = endS l (k + 2) := by
  unfold endS
  rw [h, h2, textS, if_pos (by decide), if_pos (by decide), Option.map_map]
  congr 1
  funext p
  simp only [Function.comp]
  omega
theorem ends_here {l : List UInt8} {k : Nat} (h : l.drop k = 39 :: l.drop (k + 1)) (h2 : (l.drop (k + 1)).head? ≠ some 39) : endS l k = some k := by
  unfold endS
  rw [h, textS_end h2]
  rfl
end Go.Proofs.YtcmhnaanfkpheaaDoor

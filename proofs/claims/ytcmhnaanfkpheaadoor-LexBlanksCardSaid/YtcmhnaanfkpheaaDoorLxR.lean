/- Mathematics of the reference's Reserved: a word between blanks within all words between blanks. No walk. -/
import Derived.Test.YtcmhnaanfkpheaaDoorLxM
namespace Go.Proofs.YtcmhnaanfkpheaaDoor
set_option linter.unusedVariables false

/-- Words, a blank ahead of each, and one at the end. -/
def joinSp : List (List UInt8) → List UInt8
  | [] => [32]
  | x :: ws => 32 :: (x ++ joinSp ws)
def wordsL : List (List UInt8) := words8.map fun x => x.toUTF8.data.toList
theorem resB_mem {w : List UInt8} : resB w = true ↔ w ∈ wordsL := by
  unfold resB wordsL
  rw [List.any_eq_true, List.mem_map]
  constructor
  · rintro ⟨x, hx, h⟩
    exact ⟨x, hx, by simpa using h⟩
  · rintro ⟨x, hx, h⟩
    exact ⟨x, hx, by simpa using h⟩
theorem joinSp_head (ws : List (List UInt8)) : ∃ t, joinSp ws = 32 :: t := by
  cases ws with
  | nil => exact ⟨[], rfl⟩
  | cons x ws => exact ⟨_, rfl⟩
/-- Up to the first blank. -/
theorem first_blank {x w : List UInt8} {s t : List UInt8} (hx : ∀ c ∈ x, c ≠ 32) (hw : ∀ c ∈ w, c ≠ 32) (h : x ++ 32 :: s = w ++ 32 :: t) : x = w := by
  induction x generalizing w with
  | nil =>
    cases w with
    | nil => rfl
    | cons d w =>
      simp only [List.nil_append, List.cons_append] at h
      injection h with h1 h2
      exact absurd h1.symm (hw d (by simp))
  | cons c x ih =>
    cases w with
    | nil =>
      simp only [List.nil_append, List.cons_append] at h
      injection h with h1 h2
      exact absurd h1 (hx c (by simp))
    | cons d w =>
      simp only [List.cons_append] at h
      injection h with h1 h2
      rw [h1, ih (fun c hc => hx c (by simp [hc])) (fun c hc => hw c (by simp [hc])) h2]
/-- Does it stand there, with blanks around, at place i? -/
def OccAt (l w : List UInt8) (i : Nat) : Prop := ∃ t, l.drop i = 32 :: (w ++ 32 :: t)
theorem occ_join {w : List UInt8} (hw : ∀ c ∈ w, c ≠ 32) (hw0 : w ≠ []) : ∀ ws : List (List UInt8), (∀ x ∈ ws, ∀ c ∈ x, c ≠ 32) → ((∃ i, OccAt (joinSp ws) w i) ↔ w ∈ ws)
  | [], _ => by
    constructor
    · rintro ⟨i, t, h⟩
      exfalso
      have hl := congrArg List.length h
      simp [joinSp] at hl
      omega
    · intro h; cases h
  | x :: ws, hx => by
    have ih := occ_join hw hw0 ws (fun y hy => hx y (by simp [hy]))
    obtain ⟨s, hs⟩ := joinSp_head ws
    constructor
    · rintro ⟨i, t, h⟩
      rw [joinSp] at h
      match i with
      | 0 =>
        simp only [List.drop_zero] at h
        injection h with _ h
        rw [hs] at h
        have := first_blank (hx x (by simp)) hw h
        rw [this]
        simp
      | i + 1 =>
        simp only [List.drop_succ_cons] at h
        by_cases hi : i < x.length
        · exfalso
          rw [List.drop_append_of_le_length (by omega), List.drop_eq_getElem_cons hi] at h
          simp only [List.cons_append] at h
          injection h with h1 _
          exact hx x (by simp) _ (List.getElem_mem hi) h1
        · rw [List.drop_append, List.drop_of_length_le (by omega), List.nil_append] at h
          exact List.mem_cons_of_mem _ (ih.1 ⟨_, t, h⟩)
    · intro h
      rcases List.mem_cons.1 h with rfl | h
      · refine ⟨0, s, ?_⟩
        rw [joinSp, List.drop_zero, hs]
      · obtain ⟨i, t, ht⟩ := ih.2 h
        refine ⟨x.length + 1 + i, t, ?_⟩
        rw [joinSp, show x.length + 1 + i = (x.length + i) + 1 from by omega, List.drop_succ_cons, List.drop_append, List.drop_of_length_le (by omega), List.nil_append, Nat.add_sub_cancel_left]
        exact ht
theorem words_plain : ∀ x ∈ wordsL, ∀ c ∈ x, 97 ≤ c.toNat ∧ c.toNat ≤ 122 := by decide +kernel
theorem words_long : ∀ x ∈ wordsL, x ≠ [] := by decide +kernel
theorem no_blank {w : List UInt8} (h : ∀ c ∈ w, 97 ≤ c.toNat ∧ c.toNat ≤ 122) : ∀ c ∈ w, c ≠ 32 := fun c hc e => by
  have := (h c hc).1
  rw [e] at this
  exact absurd this (by decide)
/-- What the reference's Reserved asks. -/
theorem res_occ {w : List UInt8} (h : ∀ c ∈ w, 97 ≤ c.toNat ∧ c.toNat ≤ 122) (h0 : w ≠ []) : resB w = true ↔ ∃ i, OccAt (joinSp wordsL) w i :=
  resB_mem.trans (occ_join (no_blank h) h0 wordsL (fun x hx => no_blank (words_plain x hx))).symm
theorem res_plain {w : List UInt8} (h : resB w = true) : (∀ c ∈ w, 97 ≤ c.toNat ∧ c.toNat ≤ 122) ∧ w ≠ [] := ⟨words_plain w (resB_mem.1 h), words_long w (resB_mem.1 h)⟩
end Go.Proofs.YtcmhnaanfkpheaaDoor

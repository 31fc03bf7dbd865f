/- Mathematics: names and reserved words are tokens of themselves. No walk. -/
import Derived.Test.YtcmhnaanfkpheaaDoorLxYa
namespace Go.Proofs.YtcmhnaanfkpheaaDoor
set_option linter.unusedVariables false

theorem low_plain {c : UInt8} (h : lowB c = true) : blankB c = false ∧ (c == 45) = false ∧ upB c = false ∧ (c == 34) = false := by
  have hr : (97 ≤ c.toNat ∧ c.toNat ≤ 122) ∨ c = 95 := by
    unfold lowB at h
    simpa using h
  have hne : ∀ d : UInt8, d.toNat ≠ 95 → ¬ (97 ≤ d.toNat ∧ d.toNat ≤ 122) → (c == d) = false := fun d h1 h2 => by
    rw [beq_eq_false_iff_ne]
    intro e
    subst e
    rcases hr with hr | hr
    · exact h2 hr
    · exact h1 (by rw [hr]; rfl)
  refine ⟨?_, hne 45 (by decide) (by decide), ?_, hne 34 (by decide) (by decide)⟩
  · unfold blankB
    rw [hne 32 (by decide) (by decide), hne 9 (by decide) (by decide), hne 10 (by decide) (by decide), hne 13 (by decide) (by decide)]
    rfl
  · unfold upB
    rcases hr with hr | hr
    · rw [decide_eq_false (show ¬ c.toNat ≤ 90 by omega), Bool.and_false]
    · subst hr; rfl
theorem dig_plain {c : UInt8} (h : digB c = true) : upB c = false ∧ (c == 34) = false := by
  obtain ⟨h1, h2⟩ := dig_range h
  refine ⟨(low_not h).2, ?_⟩
  rw [beq_eq_false_iff_ne]
  intro e
  subst e
  exact absurd h1 (by decide)
theorem form_all {l : List UInt8} (h : formB l = true) : ∀ c ∈ l, (lowB c = true ∨ digB c = true) := by
  intro c hc
  obtain ⟨j, hj⟩ := List.getElem?_of_mem hc
  have := ((form_iff l).1 h).2 j c hj
  unfold okF at this
  rw [Bool.or_eq_true, Bool.and_eq_true] at this
  rcases this with h | ⟨_, h⟩
  · exact .inl h
  · exact .inr h
theorem run_all {p : UInt8 → Bool} : ∀ {l : List UInt8}, (∀ c ∈ l, p c = true) → runB p l = l.length
  | [], _ => rfl
  | c :: l, h => by rw [run_cons (h c (List.mem_cons_self ..)), run_all fun d hd => h d (List.mem_cons_of_mem _ hd)]; rfl
theorem run_until {p : UInt8 → Bool} {d : UInt8} {m : List UInt8} (hd : p d = false) : ∀ {l : List UInt8}, (∀ c ∈ l, p c = true) → runB p (l ++ d :: m) = l.length
  | [], _ => run_stop hd
  | c :: l, h => by rw [List.cons_append, run_cons (h c (List.mem_cons_self ..)), run_until hd fun d hd => h d (List.mem_cons_of_mem _ hd)]; rfl
theorem map_small {l : List UInt8} (h : ∀ c ∈ l, upB c = false) : l.map smallB = l := by
  conv => rhs; rw [← List.map_id l]
  exact List.map_congr_left fun c hc => by unfold smallB; rw [if_neg (by rw [h c hc]; decide)]; rfl
theorem form_small {l : List UInt8} (h : formB l = true) : ∀ c ∈ l, upB c = false := fun c hc => by
  rcases form_all h c hc with h | h
  · exact (low_plain h).2.2.1
  · exact (dig_plain h).1
theorem form_head {l : List UInt8} (h : formB l = true) : ∃ c t, l = c :: t ∧ lowB c = true := by
  cases l with
  | nil => exact absurd h (by decide)
  | cons c t =>
    unfold formB at h
    rw [Bool.and_eq_true] at h
    exact ⟨c, t, rfl, h.1⟩
theorem skip_zero {c : UInt8} {t : List UInt8} (h1 : blankB c = false) (h2 : (c == 45) = false) : skipS false (c :: t) = 0 := by
  rw [skipS, if_neg (by rw [h1]; decide), if_neg (by rw [h2]; simp)]
theorem next_form {l : List UInt8} (h : formB l = true) : nextAt l 0 = ⟨0, tokWord l⟩ ∧ tokWord l = if resB l then ⟨1, l.length, 0, l, 0⟩ else if 20 < l.length then tokBad 4 else ⟨2, l.length, 0, l, 0⟩ := by
  constructor
  · obtain ⟨c, t, rfl, hc⟩ := form_head h
    obtain ⟨h1, h2, _, _⟩ := low_plain hc
    unfold nextAt
    rw [List.drop_zero, skip_zero h1 h2]
    simp only [Nat.add_zero, List.length_cons, List.drop_zero]
    rw [if_neg (by omega), tokL, if_pos (by rw [hc]; rfl)]
  · unfold tokWord
    have hn : runB wordB l = l.length := run_all fun c hc => by
      unfold wordB
      rcases form_all h c hc with h | h
      · rw [h]; rfl
      · rw [h]; simp
    simp only [hn, List.take_length, map_small (form_small h)]
theorem next_quoted {l : List UInt8} (h : formB l = true) (h20 : l.length ≤ 20) : nextAt (34 :: (l ++ [34])) 0 = ⟨0, ⟨2, l.length + 2, 0, l, 0⟩⟩ := by
  have hn : runB (fun c => c != 34) (l ++ [34]) = l.length := run_until (by decide) fun c hc => by
    rcases form_all h c hc with h | h
    · rw [bne, (low_plain h).2.2.2]; rfl
    · rw [bne, (dig_plain h).2]; rfl
  unfold nextAt
  rw [List.drop_zero, skip_zero (by decide) (by decide)]
  simp only [Nat.add_zero, List.length_cons, List.drop_zero]
  rw [if_neg (by omega), tokL, if_neg (by decide), if_neg (by decide), if_pos (by decide)]
  unfold tokName
  simp only [List.drop_succ_cons, List.drop_zero, hn, List.take_left', List.length_cons, List.length_append, List.length_nil]
  rw [if_neg (by omega), if_neg (by rw [h]; decide), if_neg (by omega)]
theorem res_form {l : List UInt8} (h : resB l = true) : formB l = true ∧ l.length ≤ 20 := by
  have h1 : words8.all (fun x => formB x.toUTF8.data.toList && decide (x.toUTF8.data.toList.length ≤ 20)) = true := by decide +kernel
  unfold resB at h
  obtain ⟨x, hx, he⟩ := List.any_eq_true.1 h
  have h2 := List.all_eq_true.1 h1 x hx
  rw [beq_iff_eq] at he
  rw [he, Bool.and_eq_true, decide_eq_true_eq] at h2
  exact h2
end Go.Proofs.YtcmhnaanfkpheaaDoor

/- Rows in order: a rising list is told by its rows alone; the reference's places. No walk. (For ValueSorts, ValueBags.) -/
import Derived.Test.YtahdkfenpflahaaRowM
namespace Go.Proofs.Ytahdkfenpflahaa
set_option linter.unusedVariables false

theorem cmpR_zero : ∀ {r s : List ValV}, cmpR r s = 0 ↔ r = s
  | [], [] => by simp [cmpR]
  | [], _ :: _ => by simp [cmpR]
  | _ :: _, [] => by simp [cmpR]
  | a :: l, b :: m => by
    have ih := @cmpR_zero l m
    have hz := @cmpV_zero a b
    simp only [cmpR]
    by_cases h : cmpV a b = 0
    · rw [if_pos h, ih, hz.1 h]
      simp
    · rw [if_neg h]
      constructor
      · intro g; exact absurd g h
      · intro g; exact absurd (hz.2 (List.cons.inj g).1) h
theorem cmpR_anti {r s : List ValV} (h : cmpR r s ≤ 0) (g : cmpR s r ≤ 0) : r = s := by
  have := cmpR_neg r s
  exact cmpR_zero.1 (by omega)
/-- A list of rows that rises. -/
def Rises (l : List (List ValV)) : Prop := l.Pairwise fun a b => cmpR a b ≤ 0
theorem rises_unique : ∀ (l m : List (List ValV)), l.Perm m → Rises l → Rises m → l = m
  | [], m, h, _, _ => (List.Perm.nil_eq h)
  | a :: l, [], h, _, _ => absurd h.length_eq (by simp)
  | a :: l, b :: m, h, hl, hm => by
    have ab : a = b := by
      have h1 : b ∈ a :: l := h.mem_iff.2 List.mem_cons_self
      have h2 : a ∈ b :: m := h.mem_iff.1 List.mem_cons_self
      rcases List.mem_cons.1 h1 with e | h1
      · exact e.symm
      · rcases List.mem_cons.1 h2 with e | h2
        · exact e
        · exact cmpR_anti ((List.pairwise_cons.1 hl).1 b h1) ((List.pairwise_cons.1 hm).1 a h2)
    subst ab
    rw [rises_unique l m (List.Perm.cons_inv h) (List.pairwise_cons.1 hl).2 (List.pairwise_cons.1 hm).2]
/-- How many rows stand ahead of one, from the front. -/
def placeF : List (List ValV) → List ValV → Nat
  | [], _ => 0
  | a :: l, r => if cmpR a r ≤ 0 then placeF l r + 1 else 0
def insF (l : List (List ValV)) (r : List ValV) : List (List ValV) := l.take (placeF l r) ++ r :: l.drop (placeF l r)
theorem insF_cons (a : List ValV) (l : List (List ValV)) (r : List ValV) : insF (a :: l) r = if cmpR a r ≤ 0 then a :: insF l r else r :: a :: l := by
  unfold insF
  simp only [placeF]
  by_cases h : cmpR a r ≤ 0
  · rw [if_pos h, if_pos h]; simp
  · rw [if_neg h, if_neg h]; simp
theorem insF_perm : ∀ (l : List (List ValV)) (r : List ValV), (insF l r).Perm (r :: l)
  | [], r => by simp [insF, placeF]
  | a :: l, r => by
    rw [insF_cons]
    split
    · exact ((insF_perm l r).cons a).trans (List.Perm.swap r a l)
    · exact List.Perm.refl _
theorem insF_rises : ∀ (l : List (List ValV)) (r : List ValV), Rises l → Rises (insF l r)
  | [], r, _ => by simp [insF, placeF, Rises]
  | a :: l, r, h => by
    have hp := List.pairwise_cons.1 h
    rw [insF_cons]
    split
    · rename_i hle
      refine List.pairwise_cons.2 ⟨fun b hb => ?_, insF_rises l r hp.2⟩
      rcases List.mem_cons.1 ((insF_perm l r).mem_iff.1 hb) with rfl | hb
      · exact hle
      · exact hp.1 b hb
    · rename_i hgt
      have hra : cmpR r a ≤ 0 := by have := cmpR_neg a r; omega
      refine List.pairwise_cons.2 ⟨fun b hb => ?_, h⟩
      rcases List.mem_cons.1 hb with rfl | hb
      · exact hra
      · exact cmpR_trans r a b hra (hp.1 b hb)
/-- The reference's Sorted. -/
def sortedF (l : List (List ValV)) : List (List ValV) := l.foldl insF []
theorem sorted_fold : ∀ (l acc : List (List ValV)), (l.foldl insF acc).Perm (acc ++ l) ∧ (Rises acc → Rises (l.foldl insF acc))
  | [], acc => by simp
  | a :: l, acc => by
    obtain ⟨h1, h2⟩ := sorted_fold l (insF acc a)
    refine ⟨?_, fun h => h2 (insF_rises acc a h)⟩
    refine h1.trans (((insF_perm acc a).append_right l).trans ?_)
    exact (List.perm_middle (l₁ := acc) (a := a) (l₂ := l)).symm
theorem sortedF_perm (l : List (List ValV)) : (sortedF l).Perm l := by simpa [sortedF] using (sorted_fold l []).1
theorem sortedF_rises (l : List (List ValV)) : Rises (sortedF l) := (sorted_fold l []).2 List.Pairwise.nil
/-- What rises and holds the same rows is the reference's. -/
theorem sorted_is {l s : List (List ValV)} (hp : s.Perm l) (hr : Rises s) : s = sortedF l := rises_unique s (sortedF l) (hp.trans (sortedF_perm l).symm) hr (sortedF_rises l)
theorem sorted_same {l m : List (List ValV)} : sortedF l = sortedF m ↔ l.Perm m :=
  ⟨fun h => ((sortedF_perm l).symm.trans (h ▸ List.Perm.refl _)).trans (sortedF_perm m), fun h => rises_unique _ _ (((sortedF_perm l).trans h).trans (sortedF_perm m).symm) (sortedF_rises l) (sortedF_rises m)⟩
/-- How often a row comes. -/
def timesF (l : List (List ValV)) (r : List ValV) : Nat := l.countP fun x => decide (cmpR x r = 0)
theorem times_perm {l m : List (List ValV)} (h : l.Perm m) (r : List ValV) : timesF l r = timesF m r := h.countP_eq _
theorem times_cons (a : List ValV) (l : List (List ValV)) (r : List ValV) : timesF (a :: l) r = timesF l r + if cmpR a r = 0 then 1 else 0 := by
  unfold timesF
  rw [List.countP_cons]
  by_cases h : cmpR a r = 0 <;> simp [h]
theorem perm_of_times : ∀ l m : List (List ValV), l.length = m.length → (∀ a ∈ l, timesF l a = timesF m a) → l.Perm m
  | [], m, h, _ => by
    obtain rfl : m = [] := List.eq_nil_of_length_eq_zero (by simpa using h.symm)
    exact List.Perm.refl _
  | a :: l, m, h, ht => by
    have h1 := ht a List.mem_cons_self
    rw [times_cons, if_pos (cmpR_refl a)] at h1
    have hpos : 0 < timesF m a := by omega
    obtain ⟨x, hx, hxa⟩ := List.countP_pos_iff.1 hpos
    obtain rfl := cmpR_zero.1 (of_decide_eq_true hxa)
    obtain ⟨s, t, rfl⟩ := List.append_of_mem hx
    have hp : (s ++ x :: t).Perm (x :: (s ++ t)) := List.perm_middle
    refine ((perm_of_times l (s ++ t) ?_ fun b hb => ?_).cons x).trans hp.symm
    · have := hp.length_eq
      simp at this h ⊢
      omega
    · have h2 := ht b (List.mem_cons_of_mem _ hb)
      rw [times_perm hp b, times_cons, times_cons] at h2
      omega
/-- Two lists are one bag just if each row of the one comes as often in both, and they are as long. -/
theorem bag_is {l m : List (List ValV)} : (l.length = m.length ∧ ∀ a ∈ l, timesF l a = timesF m a) ↔ sortedF l = sortedF m :=
  ⟨fun h => sorted_same.2 (perm_of_times l m h.1 h.2), fun h => ⟨(sorted_same.1 h).length_eq, fun a _ => times_perm (sorted_same.1 h) a⟩⟩
end Go.Proofs.Ytahdkfenpflahaa

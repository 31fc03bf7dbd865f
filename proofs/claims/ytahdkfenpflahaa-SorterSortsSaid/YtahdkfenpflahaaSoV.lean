/- Mathematics: by keys whose columns all rows have, sorting by halves gives the one rising permutation. No walk. -/
import Derived.Test.YtahdkfenpflahaaSoR
namespace Go.Proofs.Ytahdkfenpflahaa
set_option linter.unusedVariables false
open Go.ChangeShapes Go.WideShapes Go.ChangeAt Go.RowKit

/-- Rising by keys: none stands ahead of one before it. -/
def RiseK (ks : List (Int × Bool)) (l : List (List ValV)) : Prop := l.Pairwise fun a b => cmpK a b ks ≤ 0
theorem mergeL_rise {ks : List (Int × Bool)} : ∀ {l r : List (List ValV)}, (∀ a ∈ l, AllK ks a) → (∀ a ∈ r, AllK ks a) → RiseK ks l → RiseK ks r → RiseK ks (mergeL (fun r s => befB r s ks) l r)
  | [], r, _, _, _, hr => by rw [mergeL]; exact hr
  | a :: l, [], _, _, hl, _ => by rw [mergeL_nil]; exact hl
  | a :: l, b :: r, kl, kr, hl, hr => by
    have ha := kl a (by simp)
    have hb := kr b (by simp)
    have pl := List.pairwise_cons.1 hl
    have pr := List.pairwise_cons.1 hr
    have hx : befB b a ks = decide (cmpK b a ks < 0) := befB_cmp hb ha
    by_cases h : cmpK b a ks < 0
    · rw [mergeL_right (lt := fun r s => befB r s ks) (by show befB b a ks = true; rw [hx]; exact decide_eq_true h)]
      refine List.pairwise_cons.2 ⟨fun c hc => ?_, mergeL_rise kl (fun x hx => kr x (by simp [hx])) hl pr.2⟩
      rcases List.mem_append.1 ((mergeL_perm _ _ _).mem_iff.1 hc) with hc | hc
      · rcases List.mem_cons.1 hc with rfl | hc
        · omega
        · exact cmpK_trans b a c ks (by omega) (pl.1 c hc)
      · exact pr.1 c hc
    · have hn := cmpK_neg a b ks
      rw [mergeL_left (lt := fun r s => befB r s ks) (by show befB b a ks = false; rw [hx]; exact decide_eq_false h)]
      refine List.pairwise_cons.2 ⟨fun c hc => ?_, mergeL_rise (fun x hx => kl x (by simp [hx])) kr pl.2 hr⟩
      rcases List.mem_append.1 ((mergeL_perm _ _ _).mem_iff.1 hc) with hc | hc
      · exact pl.1 c hc
      · rcases List.mem_cons.1 hc with rfl | hc
        · omega
        · exact cmpK_trans a b c ks (by omega) (pr.1 c hc)
theorem sortN_rise {ks : List (Int × Bool)} : ∀ {f : Nat} {l : List (List ValV)}, l.length ≤ f → (∀ a ∈ l, AllK ks a) → RiseK ks (sortN (fun r s => befB r s ks) f l)
  | 0, l, h, _ => by
    obtain rfl : l = [] := List.eq_nil_of_length_eq_zero (by omega)
    exact List.Pairwise.nil
  | f + 1, l, h, k => by
    rw [sortN]
    by_cases h2 : l.length < 2
    · rw [if_pos h2]
      match l, h2 with
      | [], _ => exact List.Pairwise.nil
      | [a], _ => exact List.pairwise_singleton _ _
    · rw [if_neg h2]
      have k1 : ∀ a ∈ l.take (l.length / 2), AllK ks a := fun a ha => k a (List.mem_of_mem_take ha)
      have k2 : ∀ a ∈ l.drop (l.length / 2), AllK ks a := fun a ha => k a (List.mem_of_mem_drop ha)
      exact mergeL_rise (fun a ha => k1 a ((sortN_perm _ _ _).mem_iff.1 ha)) (fun a ha => k2 a ((sortN_perm _ _ _).mem_iff.1 ha))
        (sortN_rise (by rw [List.length_take]; omega) k1) (sortN_rise (by rw [List.length_drop]; omega) k2)
theorem sortR_rise {ks : List (Int × Bool)} {l : List (List ValV)} (k : ∀ a ∈ l, AllK ks a) : RiseK ks (sortR ks l) := sortN_rise (Nat.le_refl _) k
/-- Two rising permutations of one another are the same. -/
theorem rise_unique {ks : List (Int × Bool)} : ∀ {l m : List (List ValV)}, RiseK ks l → RiseK ks m → l.Perm m → l = m
  | [], m, _, _, hp => (List.nil_perm.1 hp).symm
  | a :: l, [], _, _, hp => absurd hp.length_eq (by simp)
  | a :: l, b :: m, hl, hm, hp => by
    have pl := List.pairwise_cons.1 hl
    have pm := List.pairwise_cons.1 hm
    have e : a = b := by
      have h1 : b ∈ a :: l := hp.mem_iff.2 (by simp)
      have h2 : a ∈ b :: m := hp.mem_iff.1 (by simp)
      rcases List.mem_cons.1 h1 with h1 | h1
      · exact h1.symm
      · rcases List.mem_cons.1 h2 with h2 | h2
        · exact h2
        · have := pl.1 b h1
          have := pm.1 a h2
          have := cmpK_neg a b ks
          exact (cmpK_zero (ks := ks)).1 (by omega)
    subst e
    rw [rise_unique pl.2 pm.2 hp.cons_inv]
end Go.Proofs.Ytahdkfenpflahaa

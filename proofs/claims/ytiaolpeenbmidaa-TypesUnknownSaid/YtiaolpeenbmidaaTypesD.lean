/- Contracts of package types and of its reference: operators of kinds. -/
import Derived.Test.YtiaolpeenbmidaaTypesC
namespace Go.Proofs.Ytiaolpeenbmidaa
set_option linter.unusedVariables false
open Go.ChangeShapes Go.WideShapes Go.ChangeAt Go.RowKit

set_option maxHeartbeats 4000000 in
theorem op_c_bad (op : Int) (A : Option Addr) (n c : Nat) (zs : List Int) (w : World) (hn : zs.length = n) (hm : n ≤ 1048576) (h : lo op = 0 ∨ (n : Int) < lo op ∨ hi op < n) :
    Calls Try.prog 9 #[.int .i64 op, .slice A n c] w fun e w' => e = .returned (.tuple #[.int .i64 (opI op zs).1, .int .i64 (opI op zs).2]) ∧ Below w.heap.size w w' := by
  have hb := lo_bd op
  have hlo : lo op ≤ hi op := by unfold hi; split <;> omega
  have hm0 : lo op = 0 → hi op = 0 := by
    intro h
    unfold hi
    rw [if_neg (by rintro (rfl | rfl) <;> simp [lo] at h)]
    exact h
  have HE : Hid (opI op zs = if lo op = 0 then (0, 1) else (0, 11)) := by
    show opI op zs = _
    unfold opI
    split
    · rfl
    · rw [if_pos (by rw [hn]; rcases h with h | h | h
                     · exact absurd h ‹_›
                     · exact .inl h
                     · right; unfold hi at h; unfold hi; split at h <;> simp_all <;> omega)]
  generalize eL : lo op = L at *
  generalize eM : hi op = M at *
  have EL := hide eL
  have EM := hide eM
  clear eL eM hn
  by_cases h0 : L = 0
  · subst h0
    have hm1 := hm0 rfl
    subst hm1
    clear h hm0
    go_enter Try.func9, Try.ntmps9
    go_wp2_with (first | (go_at_call 19; refine (operands_c _ _).mono ?_; rw [EL.out, EM.out]; rintro e w' ⟨rfl, rfl⟩))
    go_ret2
    exact ⟨ret_p (by rw [HE.out]; rfl), Below.refl _ _⟩
  · clear hm0
    have t0 : (L == 0) = false := by simp [h0]
    have t1 : ¬ M = 0 := by omega
    have t2 : (M == 0) = false := by simp [t1]
    by_cases h1 : (n : Int) < L
    · clear h
      go_enter Try.func9, Try.ntmps9
      go_wp2_with (first | (go_at_call 19; refine (operands_c _ _).mono ?_; rw [EL.out, EM.out]; rintro e w' ⟨rfl, rfl⟩))
      go_ret2
      exact ⟨ret_p (by rw [HE.out, if_neg h0]), Below.refl _ _⟩
    · have h2 : M < (n : Int) := by omega
      clear h
      go_enter Try.func9, Try.ntmps9
      go_wp2_with (first | (go_at_call 19; refine (operands_c _ _).mono ?_; rw [EL.out, EM.out]; rintro e w' ⟨rfl, rfl⟩))
      go_ret2
      exact ⟨ret_p (by rw [HE.out, if_neg h0]), Below.refl _ _⟩
set_option maxHeartbeats 8000000 in
theorem op_c (op : Int) (A : Option Addr) (n c : Nat) (zs : List Int) (w : World) (hz : Ints w w.heap.size A n zs) (hm : n ≤ 1048576) (hnc : n ≤ c) (hA : A = none → n = 0) :
    Calls Try.prog 9 #[.int .i64 op, .slice A n c] w fun e w' => e = .returned (.tuple #[.int .i64 (opI op zs).1, .int .i64 (opI op zs).2]) ∧ Below w.heap.size w w' := by
  by_cases hbad : lo op = 0 ∨ (n : Int) < lo op ∨ hi op < n
  · exact op_c_bad op A n c zs w hz.1 hm hbad
  · have h0 : ¬ lo op = 0 := by omega
    have h1 : lo op ≤ (n : Int) := by omega
    have h2 : (n : Int) ≤ hi op := by omega
    have hr := lo_range h0
    have hbd := lo_bd op
    have hlo : lo op ≤ hi op := by unfold hi; split <;> omega
    have HE : Hid (opI op zs = bodyI op zs) := by
      show opI op zs = _
      unfold opI
      rw [if_neg h0, if_neg (by rw [hz.1]; unfold hi at h2; unfold hi; split at h2 <;> simp_all <;> omega)]
    have h : op = 3 ∨ op = 4 ∨ op = 5 ∨ op = 6 ∨ op = 7 ∨ op = 8 ∨ op = 9 ∨ op = 10 ∨ op = 11 ∨ op = 12 ∨ op = 13 ∨ op = 14 ∨ op = 15 ∨ op = 16 ∨ op = 17 ∨ op = 18 ∨ op = 19 ∨ op = 20 ∨ op = 21 ∨ op = 22 ∨ op = 23 := by omega
    clear hbad hr
    generalize eL : lo op = L at *
    generalize eM : hi op = M at *
    have EL := hide eL
    have EM := hide eM
    have HZ := hide hz
    have t0 : (L == 0) = false := by simp [h0]
    have t2 : (M == 0) = false := by simp; omega
    have hn1 : 1 ≤ n := by omega
    obtain ⟨g, off, z, rfl, hg, hx, _, HG⟩ := hz.get (k := 0) (by omega)
    simp only [Nat.add_zero] at hx
    clear eL eM h0 hz hA
    have h1n : (0 : Int) < (n : Int) := by omega
    rcases h with rfl | rfl | rfl | rfl | rfl | rfl | rfl | rfl | rfl | rfl | rfl | rfl | rfl | rfl | rfl | rfl | rfl | rfl | rfl | rfl | rfl
    all_goals
      go_enter Try.func9, Try.ntmps9
      go_wp2_with (first | (go_at_call 19; refine (operands_c _ _).mono ?_; rw [EL.out, EM.out]; rintro e w' ⟨rfl, rfl⟩) | (go_at_call 21; refine (fits_c _ _ _ _ _ _ _ HZ.out hm).mono ?_; rintro e w' ⟨rfl, rfl⟩) | (go_at_call 20; refine (result_c _ _ _).mono ?_; rintro e w' ⟨rfl, rfl⟩) | (go_at_call 22; refine (isKind_c _ _).mono ?_; rintro e w' ⟨rfl, rfl⟩) | (go_at_call 23; refine (choice_c _ _ _ _ _ HZ.out hm hnc (fun h => by cases h)).mono ?_; rintro e w' ⟨rfl, hb⟩) | (go_at_call 24; refine (compared_c _ _ _ _ _ _ HZ.out hm).mono ?_; rintro e w' ⟨rfl, rfl⟩))
      go_ret2
      first
        | exact ⟨ret_p HE.out, Below.refl _ _⟩
        | exact ⟨ret_p HE.out, hb⟩
        | exact ⟨ret_p (by rw [HE.out]; show resI 1 (isK (zs.getD 0 0)) = _; rw [HG.out]), Below.refl _ _⟩

set_option maxHeartbeats 4000000 in
theorem rop_c_bad (op : Int) (A : Option Addr) (n c : Nat) (zs : List Int) (w : World) (hn : zs.length = n) (hm : n ≤ 1048576) (h : lo op = 0 ∨ (n : Int) < lo op ∨ hir op < n) :
    Calls Try.prog 10 #[.int .i64 op, .slice A n c] w fun e w' => e = .returned (.tuple #[.int .i64 (opI op zs).1, .int .i64 (opI op zs).2]) ∧ Below w.heap.size w w' := by
  have hb := lo_bd op
  have hlo : lo op ≤ hir op := by unfold hir; split <;> omega
  have hm0 : lo op = 0 → hir op = 0 := by
    intro h
    unfold hir
    rw [if_neg (by rintro (rfl | rfl) <;> simp [lo] at h)]
    exact h
  have HE : Hid (opI op zs = if lo op = 0 then (0, 1) else (0, 11)) := by
    show opI op zs = _
    unfold opI
    split
    · rfl
    · rw [if_pos (by rw [hn]; rcases h with h | h | h
                     · exact absurd h ‹_›
                     · exact .inl h
                     · right; unfold hir at h; unfold hi; split at h <;> simp_all <;> omega)]
  generalize eL : lo op = L at *
  generalize eM : hir op = M at *
  have EL := hide eL
  have EM := hide eM
  clear eL eM hn
  by_cases h0 : L = 0
  · subst h0
    have hm1 := hm0 rfl
    subst hm1
    clear h hm0
    go_enter Try.func10, Try.ntmps10
    go_wp2_with (first | (go_at_call 25; refine (many_c _ _).mono ?_; rw [EL.out, EM.out]; rintro e w' ⟨rfl, rfl⟩))
    go_ret2
    exact ⟨ret_p (by rw [HE.out]; rfl), Below.refl _ _⟩
  · clear hm0
    have t0 : (L == 0) = false := by simp [h0]
    have t1 : ¬ M = 0 := by omega
    have t2 : (M == 0) = false := by simp [t1]
    by_cases h1 : (n : Int) < L
    · clear h
      go_enter Try.func10, Try.ntmps10
      go_wp2_with (first | (go_at_call 25; refine (many_c _ _).mono ?_; rw [EL.out, EM.out]; rintro e w' ⟨rfl, rfl⟩))
      go_ret2
      exact ⟨ret_p (by rw [HE.out, if_neg h0]), Below.refl _ _⟩
    · have h2 : M < (n : Int) := by omega
      clear h
      go_enter Try.func10, Try.ntmps10
      go_wp2_with (first | (go_at_call 25; refine (many_c _ _).mono ?_; rw [EL.out, EM.out]; rintro e w' ⟨rfl, rfl⟩))
      go_ret2
      exact ⟨ret_p (by rw [HE.out, if_neg h0]), Below.refl _ _⟩
set_option maxHeartbeats 8000000 in
theorem rop_c (op : Int) (A : Option Addr) (n c : Nat) (zs : List Int) (w : World) (hz : Ints w w.heap.size A n zs) (hm : n ≤ 1048576) (hnc : n ≤ c) (hA : A = none → n = 0) :
    Calls Try.prog 10 #[.int .i64 op, .slice A n c] w fun e w' => e = .returned (.tuple #[.int .i64 (opI op zs).1, .int .i64 (opI op zs).2]) ∧ Below w.heap.size w w' := by
  by_cases hbad : lo op = 0 ∨ (n : Int) < lo op ∨ hir op < n
  · exact rop_c_bad op A n c zs w hz.1 hm hbad
  · have h0 : ¬ lo op = 0 := by omega
    have h1 : lo op ≤ (n : Int) := by omega
    have h2 : (n : Int) ≤ hir op := by omega
    have hr := lo_range h0
    have hbd := lo_bd op
    have hlo : lo op ≤ hir op := by unfold hir; split <;> omega
    have HE : Hid (opI op zs = bodyI op zs) := by
      show opI op zs = _
      unfold opI
      rw [if_neg h0, if_neg (by rw [hz.1]; unfold hir at h2; unfold hi; split at h2 <;> simp_all <;> omega)]
    have h : op = 3 ∨ op = 4 ∨ op = 5 ∨ op = 6 ∨ op = 7 ∨ op = 8 ∨ op = 9 ∨ op = 10 ∨ op = 11 ∨ op = 12 ∨ op = 13 ∨ op = 14 ∨ op = 15 ∨ op = 16 ∨ op = 17 ∨ op = 18 ∨ op = 19 ∨ op = 20 ∨ op = 21 ∨ op = 22 ∨ op = 23 := by omega
    clear hbad hr
    generalize eL : lo op = L at *
    generalize eM : hir op = M at *
    have EL := hide eL
    have EM := hide eM
    have HZ := hide hz
    have t0 : (L == 0) = false := by simp [h0]
    have t2 : (M == 0) = false := by simp; omega
    have hn1 : 1 ≤ n := by omega
    obtain ⟨g, off, z, rfl, hg, hx, _, HG⟩ := hz.get (k := 0) (by omega)
    simp only [Nat.add_zero] at hx
    clear eL eM h0 hz hA
    have h1n : (0 : Int) < (n : Int) := by omega
    rcases h with rfl | rfl | rfl | rfl | rfl | rfl | rfl | rfl | rfl | rfl | rfl | rfl | rfl | rfl | rfl | rfl | rfl | rfl | rfl | rfl | rfl
    all_goals
      go_enter Try.func10, Try.ntmps10
      go_wp2_with (first | (go_at_call 25; refine (many_c _ _).mono ?_; rw [EL.out, EM.out]; rintro e w' ⟨rfl, rfl⟩) | (go_at_call 28; refine (each_c _ _ _ _ _ _ _ HZ.out hm).mono ?_; rintro e w' ⟨rfl, rfl⟩) | (go_at_call 27; refine (makes_c _ _ _).mono ?_; rintro e w' ⟨rfl, rfl⟩) | (go_at_call 29; refine (kind_c _ _).mono ?_; rintro e w' ⟨rfl, rfl⟩) | (go_at_call 30; refine (cases_c _ _ _ _ _ HZ.out hm).mono ?_; rintro e w' ⟨rfl, hb⟩) | (go_at_call 26; refine (rjoined_c _ _ _ _ _ _ HZ.out hm).mono ?_; rintro e w' ⟨rfl, rfl⟩))
      go_ret2
      first
        | exact ⟨ret_p HE.out, Below.refl _ _⟩
        | exact ⟨ret_p HE.out, hb⟩
        | exact ⟨ret_p (by rw [HE.out]; show resI 1 (isK (zs.getD 0 0)) = _; rw [HG.out]), Below.refl _ _⟩
end Go.Proofs.Ytiaolpeenbmidaa

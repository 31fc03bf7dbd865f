/- The contract of the reference's Out. -/
import Derived.Test.YtjbnhaiiedajjaaDoorOut
namespace Go.Proofs.YtjbnhaiiedajjaaDoor
set_option linter.unusedVariables false
open Go.ChangeShapes Go.WideShapes Go.ChangeAt Go.RowKit

set_option maxHeartbeats 1000000 in
theorem rout_c (i : ItemV) (a : Int) (w : World) :
    Calls Tryd.prog 17 #[.agg (itemCells i), .int .i64 a] w fun e w' => e = .returned (.string (outP i a)) ∧ Below w.heap.size w w' := by
  obtain ⟨star, tab, op, kind, num, str, tab2, nam, dist, kids, sub, as_⟩ := i
  unfold itemCells outP
  simp only
  cases ha : as_.toList.isEmpty with
  | false =>
    simp only [Bool.false_eq_true, if_false]
    go_enter Tryd.func17, Tryd.ntmps17
    go_wp2
    go_ret
    exact ⟨rfl, Bel.one _ _⟩
  | true =>
    simp only [if_true]
    by_cases h2 : op = 2
    · subst h2
      rw [if_pos (.inl rfl)]
      go_enter Tryd.func17, Tryd.ntmps17
      go_wp2
      go_ret
      exact ⟨rfl, Bel.one _ _⟩
    by_cases h25 : op = 25
    · subst h25
      rw [if_pos (.inr (.inl rfl))]
      go_enter Tryd.func17, Tryd.ntmps17
      go_wp2
      go_ret
      exact ⟨rfl, Bel.one _ _⟩
    by_cases h24 : op = 24
    · subst h24
      rw [if_pos (.inr (.inr rfl))]
      go_enter Tryd.func17, Tryd.ntmps17
      go_wp2
      go_ret
      exact ⟨rfl, Bel.one _ _⟩
    rw [if_neg (by omega)]
    have f1 : (op == 2) = false := by simp [h2]
    have f2 : (op == 25) = false := by simp [h25]
    have f3 : (op == 24) = false := by simp [h24]
    clear h2 h25 h24
    have hb := outNum_bd a
    have hz := itoa_size (outNum a) (by omega) (by omega)
    cases hi : inN a with
    | true =>
      have hn := (inN_iff a).1 hi
      have he : outNum a = a + 1 := by unfold outNum; rw [if_pos hi]
      rw [he] at hz ⊢
      have q := fun W => rtext_c (a + 1) (by omega) (by omega) W
      generalize (⟨(Lib.itoa (a + 1)).toArray⟩ : ByteArray) = s at *
      have Q := hide q
      have HI := hide hi
      clear q hi he hb
      go_enter Tryd.func17, Tryd.ntmps17
      go_wp2_with (go_at_call 23; refine (rin_c _ _).mono ?_; rw [HI.out]; rintro e w' ⟨rfl, rfl⟩)
      refine (Q.out _).mono ?_
      rintro e w' ⟨rfl, kk, rfl⟩
      go_wp2
      go_ret
      exact ⟨rfl, Bel.drewN (Bel.one _ _) _⟩
    | false =>
      have he : outNum a = 1 := by unfold outNum; rw [if_neg (by simp [hi])]
      rw [he] at hz ⊢
      have q := fun W => rtext_c 1 (by omega) (by omega) W
      generalize (⟨(Lib.itoa 1).toArray⟩ : ByteArray) = s at *
      have Q := hide q
      have HI := hide hi
      clear q hi he hb
      go_enter Tryd.func17, Tryd.ntmps17
      go_wp2_with (go_at_call 23; refine (rin_c _ _).mono ?_; rw [HI.out]; rintro e w' ⟨rfl, rfl⟩)
      refine (Q.out _).mono ?_
      rintro e w' ⟨rfl, kk, rfl⟩
      go_wp2
      go_ret
      exact ⟨rfl, Bel.drewN (Bel.one _ _) _⟩
end Go.Proofs.YtjbnhaiiedajjaaDoor

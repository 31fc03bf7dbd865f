/- All nine costs at once, and the examples of the chapter. -/
import Derived.Test.YtnkfimpfnofhnaaCost
namespace Go.Proofs.Ytnkfimpfnofhnaa
set_option linter.unusedVariables false
open Go.ChangeShapes Go.WideShapes Go.ChangeAt Go.RowKit

set_option maxHeartbeats 1000000 in
theorem all_c (a b c d : Int) (w : World) : Calls Try.prog 7 #[.agg #[.int .i64 a, .int .i64 b, .int .i64 c, .int .i64 d]] w (GivesInts w 9 (allL a b c d)) := by
  obtain ⟨c0, c1, c2, c3⟩ := box4 w (.int .i64 a) (.int .i64 b) (.int .i64 c) (.int .i64 d) 22
  go_enter Try.func7, Try.ntmps7
  go_wp2_with fail
  go_quiet (fail)
  go_wp2_with (first | (go_at_call 10; refine (add_c _ _ _).mono ?_; rintro e w' ⟨rfl, hb⟩; (first | replace HB := hide (Bel.then HB.out hb) | have HB : Hid (Below w.heap.size w _) := hide (Bel.then (Bel.drewN (Bel.one w _) _) hb)); clear hb) | (go_at_call 11; refine (mul_c _ _ _).mono ?_; rintro e w' ⟨rfl, rfl⟩) | (go_at_call 17; refine (scan_c _ _ _).mono ?_; rintro e w' ⟨rfl, hb⟩; (first | replace HB := hide (Bel.then HB.out hb) | have HB : Hid (Below w.heap.size w _) := hide (Bel.then (Bel.drewN (Bel.one w _) _) hb)); clear hb) | (go_at_call 18; refine (seek_c _ _ _).mono ?_; rintro e w' ⟨rfl, hb⟩; (first | replace HB := hide (Bel.then HB.out hb) | have HB : Hid (Below w.heap.size w _) := hide (Bel.then (Bel.drewN (Bel.one w _) _) hb)); clear hb) | (go_at_call 12; refine (nest_c _ _ _ _).mono ?_; rintro e w' ⟨rfl, hb⟩; (first | replace HB := hide (Bel.then HB.out hb) | have HB : Hid (Below w.heap.size w _) := hide (Bel.then (Bel.drewN (Bel.one w _) _) hb)); clear hb) | (go_at_call 13; refine (hash_c _ _ _ _ _).mono ?_; rintro e w' ⟨rfl, hb⟩; (first | replace HB := hide (Bel.then HB.out hb) | have HB : Hid (Below w.heap.size w _) := hide (Bel.then (Bel.drewN (Bel.one w _) _) hb)); clear hb) | (go_at_call 14; refine (merge_c _ _ _ _ _).mono ?_; rintro e w' ⟨rfl, hb⟩; (first | replace HB := hide (Bel.then HB.out hb) | have HB : Hid (Below w.heap.size w _) := hide (Bel.then (Bel.drewN (Bel.one w _) _) hb)); clear hb) | (go_at_call 15; refine (sort_c _ _ _).mono ?_; rintro e w' ⟨rfl, hb⟩; (first | replace HB := hide (Bel.then HB.out hb) | have HB : Hid (Below w.heap.size w _) := hide (Bel.then (Bel.drewN (Bel.one w _) _) hb)); clear hb) | (go_at_call 16; refine (each_c _ _ _).mono ?_; rintro e w' ⟨rfl, hb⟩; (first | replace HB := hide (Bel.then HB.out hb) | have HB : Hid (Below w.heap.size w _) := hide (Bel.then (Bel.drewN (Bel.one w _) _) hb)); clear hb))
  go_ret
  exact ⟨_, _, rfl, (ints_lit _ (allL a b c d) 3 rfl rfl).more (by simp), Bel.alloc HB.out _, FreshA.new HB.out.size⟩
theorem rall_c (a b c d : Int) (w : World) : Calls Try.prog 8 #[.int .i64 a, .int .i64 b, .int .i64 c, .int .i64 d] w (GivesInts w 9 (allL a b c d)) := by
  go_enter Try.func8, Try.ntmps8
  go_wp2_with (first | (go_at_call 19; refine (radd_c _ _ _).mono ?_; rintro e w' ⟨rfl, rfl⟩) | (go_at_call 20; refine (rmul_c _ _ _).mono ?_; rintro e w' ⟨rfl, rfl⟩) | (go_at_call 21; refine (rscan_c _ _ _).mono ?_; rintro e w' ⟨rfl, rfl⟩) | (go_at_call 22; refine (rseek_c _ _ _).mono ?_; rintro e w' ⟨rfl, rfl⟩) | (go_at_call 23; refine (rnest_c _ _ _ _).mono ?_; rintro e w' ⟨rfl, rfl⟩) | (go_at_call 24; refine (rhash_c _ _ _ _ _).mono ?_; rintro e w' ⟨rfl, rfl⟩) | (go_at_call 25; refine (rmerge_c _ _ _ _ _).mono ?_; rintro e w' ⟨rfl, rfl⟩) | (go_at_call 26; refine (rsort_c _ _ _).mono ?_; rintro e w' ⟨rfl, rfl⟩) | (go_at_call 27; refine (reach_c _ _ _).mono ?_; rintro e w' ⟨rfl, rfl⟩))
  go_ret
  exact ⟨_, _, rfl, (ints_lit _ (allL a b c d) 3 rfl rfl).more (by simp), Bel.one _ _, FreshA.new (Nat.le_refl _)⟩
theorem awake_c (w : World) : Calls Try.prog 9 #[] w fun e w' => e = .returned (.bool true) ∧ Below w.heap.size w w' := by
  have e1 : scanI 3 20 = 50 := by decide
  have e2 : seekI 2 4 = 64 := by decide
  have e3 : nestI 10 50 7 = 120 := by decide
  have e4 : hashI 10 50 4 30 = 98 := by decide
  have e5 : sortI 5 50 = 65 := by simp [sortI, bI, digI, digN]
  have e6 : mergeI 5 50 0 1 = 71 := by simp [mergeI, sortI, bI, digI, digN]
  have HB := hide (Below.refl w.heap.size w)
  go_enter Try.func9, Try.ntmps9
  go_wp2_with (first | (go_at_call 17; refine (scan_c _ _ _).mono ?_; rintro e w' ⟨rfl, hb⟩; replace HB := hide (Bel.then HB.out hb); clear hb) | (go_at_call 18; refine (seek_c _ _ _).mono ?_; rintro e w' ⟨rfl, hb⟩; replace HB := hide (Bel.then HB.out hb); clear hb) | (go_at_call 12; refine (nest_c _ _ _ _).mono ?_; rintro e w' ⟨rfl, hb⟩; replace HB := hide (Bel.then HB.out hb); clear hb) | (go_at_call 13; refine (hash_c _ _ _ _ _).mono ?_; rintro e w' ⟨rfl, hb⟩; replace HB := hide (Bel.then HB.out hb); clear hb) | (go_at_call 14; refine (merge_c _ _ _ _ _).mono ?_; rintro e w' ⟨rfl, hb⟩; replace HB := hide (Bel.then HB.out hb); clear hb) | (go_at_call 15; refine (sort_c _ _ _).mono ?_; rintro e w' ⟨rfl, hb⟩; replace HB := hide (Bel.then HB.out hb); clear hb))
  go_ret
  exact ⟨rfl, HB.out⟩
theorem comm1 (a b : Int) : (addI a b != addI b a) = false := by rw [addI_comm]; simp
theorem comm2 (a b : Int) : (mulI a b != mulI b a) = false := by rw [mulI_comm]; simp
theorem ass (a b c : Int) : (addI (addI a b) c != addI a (addI b c)) = false := by rw [addI_assoc]; simp
theorem sums_w (a b c : Int) (w : World) : Calls Try.prog 5 #[.int .i64 a, .int .i64 b, .int .i64 c] w fun e w' => e = .returned (.bool true) ∧ Below w.heap.size w w' := by
  have e1 := comm1 a b
  have e2 := comm2 a b
  have e3 := ass a b c
  by_cases h0 : a < 0
  · have HB := hide (Below.refl w.heap.size w)
    go_enter Try.func5, Try.ntmps5
    go_wp2_with (first | (go_at_call 9; refine (awake_c _).mono ?_; rintro e w' ⟨rfl, hb⟩; replace HB := hide (Bel.then HB.out hb); clear hb) | (go_at_call 10; refine (add_c _ _ _).mono ?_; rintro e w' ⟨rfl, hb⟩; replace HB := hide (Bel.then HB.out hb); clear hb) | (go_at_call 11; refine (mul_c _ _ _).mono ?_; rintro e w' ⟨rfl, rfl⟩))
    go_ret
    exact ⟨rfl, HB.out⟩
  · by_cases h1 : a < 1000000000000
    · have e4 : (mulI (a + 1) b == addI (mulI a b) b) = true := by rw [mulI_succ b (by omega) h1]; simp
      have HB := hide (Below.refl w.heap.size w)
      go_enter Try.func5, Try.ntmps5
      go_wp2_with (first | (go_at_call 9; refine (awake_c _).mono ?_; rintro e w' ⟨rfl, hb⟩; replace HB := hide (Bel.then HB.out hb); clear hb) | (go_at_call 10; refine (add_c _ _ _).mono ?_; rintro e w' ⟨rfl, hb⟩; replace HB := hide (Bel.then HB.out hb); clear hb) | (go_at_call 11; refine (mul_c _ _ _).mono ?_; rintro e w' ⟨rfl, rfl⟩))
      go_ret
      exact ⟨rfl, HB.out⟩
    · have HB := hide (Below.refl w.heap.size w)
      go_enter Try.func5, Try.ntmps5
      go_wp2_with (first | (go_at_call 9; refine (awake_c _).mono ?_; rintro e w' ⟨rfl, hb⟩; replace HB := hide (Bel.then HB.out hb); clear hb) | (go_at_call 10; refine (add_c _ _ _).mono ?_; rintro e w' ⟨rfl, hb⟩; replace HB := hide (Bel.then HB.out hb); clear hb) | (go_at_call 11; refine (mul_c _ _ _).mono ?_; rintro e w' ⟨rfl, rfl⟩))
      go_ret
      exact ⟨rfl, HB.out⟩
/-- Two slices that read as the same numbers within the bounds. -/
theorem says_w (a b c d : Int) (w : World) : Calls Try.prog 3 #[.agg #[.int .i64 a, .int .i64 b, .int .i64 c, .int .i64 d]] w fun e w' => e = .returned (.bool true) ∧ Below w.heap.size w w' := by
  obtain ⟨c0, c1, c2, c3⟩ := box4 w (.int .i64 a) (.int .i64 b) (.int .i64 c) (.int .i64 d) 22
  have h0 := Bel.one w (.cells #[.int .i64 a, .int .i64 b, .int .i64 c, .int .i64 d] 22)
  go_enter Try.func3, Try.ntmps3
  go_wp2_with fail
  go_region_held3 (fun w' => Below w.heap.size w w' ∧ w'.cell? ⟨w.heap.size, 0, none⟩ = some (.int .i64 a) ∧ w'.cell? ⟨w.heap.size, 1, none⟩ = some (.int .i64 b) ∧ w'.cell? ⟨w.heap.size, 2, none⟩ = some (.int .i64 c) ∧ w'.cell? ⟨w.heap.size, 3, none⟩ = some (.int .i64 d))
    (first | exact ⟨h0.drew, c0, c1, c2, c3⟩ | (go_split_ands; exact keep4 hb ‹_› ‹_› ‹_› ‹_› ‹_›) | assumption)
    (first | (go_at_call 7; refine (all_c _ _ _ _ _).mono ?_; rintro e w' ⟨X, cx, rfl, hX, hb, _⟩) | (go_at_call 8; refine (rall_c _ _ _ _ _).mono ?_; rintro e w' ⟨Y, cy, rfl, hY, hb, _⟩))
  have hb0 : Below w.heap.size w w' := by go_split_ands; assumption
  have HX := hide (Ints.kept hX hb)
  have HY := hide hY
  have HB := hide hb0
  have HF := hide (allL_bd a b c d)
  clear hX hY hb hb0
  generalize allL a b c d = zs at *
  clear c0 c1 c2 c3 h0
  go_wp2_with fail
  go_loopw [5] (fun i wr => ∃ k n : Nat, k ≤ 9 ∧ i = .int .i64 k ∧ wr = w'.drewN n) (fun i _ => 9 - (intOf i).toNat)
  case atStart => exact ⟨0, 0, by omega, rfl, rfl⟩
  case round =>
    obtain ⟨k, n, hk, rfl, rfl⟩ := hrel
    by_cases hlt : k < 9
    · obtain ⟨bx, ox, z, rfl, _, hx, _, HZ⟩ := HX.out.get hlt
      obtain ⟨byy, oy, z2, rfl, _, hy, _, HZ2⟩ := HY.out.get hlt
      obtain rfl : z = z2 := by rw [← HZ.out, ← HZ2.out]
      have hf := HF.out k hlt
      rw [HZ.out] at hf
      have f1 : (z != z) = false := by simp
      have f2 : decide (z < 0) = false := by simp; omega
      have f3 : decide (1000000000000 < z) = false := by simp; omega
      go_wp2_with fail
      go_quiet (fail)
      go_wp2_with fail
      go_roundw
      case rel => exact ⟨k + 1, _, by omega, by go_num, rfl⟩
      case measure => simp [intOf]; omega
    · have hk9 : k = 9 := by omega
      subst hk9
      go_wp2_with (first | (go_at_call 9; refine (awake_c _).mono ?_; rintro e w' ⟨rfl, hb⟩; replace HB := hide (Bel.then (Bel.drewN HB.out _) hb); clear hb))
      go_ret
      exact ⟨rfl, HB.out⟩
end Go.Proofs.Ytnkfimpfnofhnaa

/- The walks of CostRises and CostPlans. -/
import Derived.Test.YtnkfimpfnofhnaaCostA
namespace Go.Proofs.Ytnkfimpfnofhnaa
set_option linter.unusedVariables false
open Go.ChangeShapes Go.WideShapes Go.ChangeAt Go.RowKit

theorem bI_cases (b : Int) : (b < 0 ∧ bI b = 0) ∨ (0 ≤ b ∧ b ≤ 1000000000000 ∧ bI b = b) ∨ (1000000000000 < b ∧ bI b = 1000000000000) := by unfold bI; repeat' split <;> omega
set_option maxHeartbeats 4000000 in
theorem plans_w (a b c d n : Int) (w : World) (hn : -9223372036854775808 ≤ n ∧ n ≤ 9223372036854775807) : Calls Try.prog 6 #[.agg #[.int .i64 a, .int .i64 b, .int .i64 c, .int .i64 d], .int .i64 n] w fun e w' => e = .returned (.bool true) ∧ Below w.heap.size w w' := by
  obtain ⟨c0, c1, c2, c3⟩ := box4 w (.int .i64 a) (.int .i64 b) (.int .i64 c) (.int .i64 d) 22
  have hb3 := bI_cases b
  have hd3 := bI_cases d
  have f1 := nest_ge a b c
  have f2 := hash_ge a b c d
  have f3 := merge_ge a b c d
  have f4 := each_sort n b
  by_cases h1 : 0 ≤ n ∧ n ≤ 5000000000
  · obtain ⟨h1, h2⟩ := h1
    have f5 := sort_halves h1 h2
    go_enter Try.func6, Try.ntmps6
    go_wp2_with fail
    go_quiet (fail)
    go_wp2_with (first | (go_at_call 9; refine (awake_c _).mono ?_; rintro e w' ⟨rfl, hb⟩; (first | replace HB := hide (Bel.then HB.out hb) | have HB : Hid (Below w.heap.size w _) := hide (Bel.then (Bel.drewN (Bel.one w _) _) hb)); clear hb) | (go_at_call 12; refine (nest_c _ _ _ _).mono ?_; rintro e w' ⟨rfl, hb⟩; (first | replace HB := hide (Bel.then HB.out hb) | have HB : Hid (Below w.heap.size w _) := hide (Bel.then (Bel.drewN (Bel.one w _) _) hb)); clear hb) | (go_at_call 13; refine (hash_c _ _ _ _ _).mono ?_; rintro e w' ⟨rfl, hb⟩; (first | replace HB := hide (Bel.then HB.out hb) | have HB : Hid (Below w.heap.size w _) := hide (Bel.then (Bel.drewN (Bel.one w _) _) hb)); clear hb) | (go_at_call 14; refine (merge_c _ _ _ _ _).mono ?_; rintro e w' ⟨rfl, hb⟩; (first | replace HB := hide (Bel.then HB.out hb) | have HB : Hid (Below w.heap.size w _) := hide (Bel.then (Bel.drewN (Bel.one w _) _) hb)); clear hb) | (go_at_call 15; refine (sort_c _ _ _).mono ?_; rintro e w' ⟨rfl, hb⟩; (first | replace HB := hide (Bel.then HB.out hb) | have HB : Hid (Below w.heap.size w _) := hide (Bel.then (Bel.drewN (Bel.one w _) _) hb)); clear hb) | (go_at_call 16; refine (each_c _ _ _).mono ?_; rintro e w' ⟨rfl, hb⟩; (first | replace HB := hide (Bel.then HB.out hb) | have HB : Hid (Below w.heap.size w _) := hide (Bel.then (Bel.drewN (Bel.one w _) _) hb)); clear hb) | (go_at_call 10; refine (add_c _ _ _).mono ?_; rintro e w' ⟨rfl, hb⟩; (first | replace HB := hide (Bel.then HB.out hb) | have HB : Hid (Below w.heap.size w _) := hide (Bel.then (Bel.drewN (Bel.one w _) _) hb)); clear hb))
    all_goals (go_ret; exact ⟨rfl, HB.out⟩)
  · by_cases h2 : n < 0
    · clear h1
      go_enter Try.func6, Try.ntmps6
      go_wp2_with fail
      go_quiet (fail)
      go_wp2_with (first | (go_at_call 9; refine (awake_c _).mono ?_; rintro e w' ⟨rfl, hb⟩; (first | replace HB := hide (Bel.then HB.out hb) | have HB : Hid (Below w.heap.size w _) := hide (Bel.then (Bel.drewN (Bel.one w _) _) hb)); clear hb) | (go_at_call 12; refine (nest_c _ _ _ _).mono ?_; rintro e w' ⟨rfl, hb⟩; (first | replace HB := hide (Bel.then HB.out hb) | have HB : Hid (Below w.heap.size w _) := hide (Bel.then (Bel.drewN (Bel.one w _) _) hb)); clear hb) | (go_at_call 13; refine (hash_c _ _ _ _ _).mono ?_; rintro e w' ⟨rfl, hb⟩; (first | replace HB := hide (Bel.then HB.out hb) | have HB : Hid (Below w.heap.size w _) := hide (Bel.then (Bel.drewN (Bel.one w _) _) hb)); clear hb) | (go_at_call 14; refine (merge_c _ _ _ _ _).mono ?_; rintro e w' ⟨rfl, hb⟩; (first | replace HB := hide (Bel.then HB.out hb) | have HB : Hid (Below w.heap.size w _) := hide (Bel.then (Bel.drewN (Bel.one w _) _) hb)); clear hb) | (go_at_call 15; refine (sort_c _ _ _).mono ?_; rintro e w' ⟨rfl, hb⟩; (first | replace HB := hide (Bel.then HB.out hb) | have HB : Hid (Below w.heap.size w _) := hide (Bel.then (Bel.drewN (Bel.one w _) _) hb)); clear hb) | (go_at_call 16; refine (each_c _ _ _).mono ?_; rintro e w' ⟨rfl, hb⟩; (first | replace HB := hide (Bel.then HB.out hb) | have HB : Hid (Below w.heap.size w _) := hide (Bel.then (Bel.drewN (Bel.one w _) _) hb)); clear hb) | (go_at_call 10; refine (add_c _ _ _).mono ?_; rintro e w' ⟨rfl, hb⟩; (first | replace HB := hide (Bel.then HB.out hb) | have HB : Hid (Below w.heap.size w _) := hide (Bel.then (Bel.drewN (Bel.one w _) _) hb)); clear hb))
      all_goals (go_ret; exact ⟨rfl, HB.out⟩)
    · have h3 : 5000000000 < n := by omega
      clear h1
      go_enter Try.func6, Try.ntmps6
      go_wp2_with fail
      go_quiet (fail)
      go_wp2_with (first | (go_at_call 9; refine (awake_c _).mono ?_; rintro e w' ⟨rfl, hb⟩; (first | replace HB := hide (Bel.then HB.out hb) | have HB : Hid (Below w.heap.size w _) := hide (Bel.then (Bel.drewN (Bel.one w _) _) hb)); clear hb) | (go_at_call 12; refine (nest_c _ _ _ _).mono ?_; rintro e w' ⟨rfl, hb⟩; (first | replace HB := hide (Bel.then HB.out hb) | have HB : Hid (Below w.heap.size w _) := hide (Bel.then (Bel.drewN (Bel.one w _) _) hb)); clear hb) | (go_at_call 13; refine (hash_c _ _ _ _ _).mono ?_; rintro e w' ⟨rfl, hb⟩; (first | replace HB := hide (Bel.then HB.out hb) | have HB : Hid (Below w.heap.size w _) := hide (Bel.then (Bel.drewN (Bel.one w _) _) hb)); clear hb) | (go_at_call 14; refine (merge_c _ _ _ _ _).mono ?_; rintro e w' ⟨rfl, hb⟩; (first | replace HB := hide (Bel.then HB.out hb) | have HB : Hid (Below w.heap.size w _) := hide (Bel.then (Bel.drewN (Bel.one w _) _) hb)); clear hb) | (go_at_call 15; refine (sort_c _ _ _).mono ?_; rintro e w' ⟨rfl, hb⟩; (first | replace HB := hide (Bel.then HB.out hb) | have HB : Hid (Below w.heap.size w _) := hide (Bel.then (Bel.drewN (Bel.one w _) _) hb)); clear hb) | (go_at_call 16; refine (each_c _ _ _).mono ?_; rintro e w' ⟨rfl, hb⟩; (first | replace HB := hide (Bel.then HB.out hb) | have HB : Hid (Below w.heap.size w _) := hide (Bel.then (Bel.drewN (Bel.one w _) _) hb)); clear hb) | (go_at_call 10; refine (add_c _ _ _).mono ?_; rintro e w' ⟨rfl, hb⟩; (first | replace HB := hide (Bel.then HB.out hb) | have HB : Hid (Below w.heap.size w _) := hide (Bel.then (Bel.drewN (Bel.one w _) _) hb)); clear hb))
      all_goals (go_ret; exact ⟨rfl, HB.out⟩)

/-- the costs of a, b, c, d after one of them has risen -/
theorem loop_rises (zs ys : List Int) (h : ∀ i, i < 9 → zs.getD i 0 ≤ ys.getD i 0) {k : Nat} {z y : Int} (hk : k < 9) (hz : zs.getD k 0 = z) (hy : ys.getD k 0 = y) : z ≤ y := by have := h k hk; omega
set_option maxHeartbeats 4000000 in
theorem rises_0 (a b c d m : Int) (w : World) (hm : a ≤ m) : Calls Try.prog 4 #[.agg #[.int .i64 a, .int .i64 b, .int .i64 c, .int .i64 d], .int .i64 0, .int .i64 m] w fun e w' => e = .returned (.bool true) ∧ Below w.heap.size w w' := by
  obtain ⟨c0, c1, c2, c3⟩ := box4 w (.int .i64 a) (.int .i64 b) (.int .i64 c) (.int .i64 d) 22
  have h0 := Bel.one w (.cells #[.int .i64 a, .int .i64 b, .int .i64 c, .int .i64 d] 22)
  have HM : Hid (∀ i, i < 9 → (allL a b c d).getD i 0 ≤ (allL m b c d).getD i 0) := allL_mono hm (Int.le_refl _) (Int.le_refl _) (Int.le_refl _)
  go_enter Try.func4, Try.ntmps4
  go_wp2_with fail
  refine (all_c _ _ _ _ _).mono ?_
  rintro e w1 ⟨X, cx, rfl, hX, hb, hF⟩
  have d0 := kept hb c0
  have d1 := kept hb c1
  have d2 := kept hb c2
  have d3 := kept hb c3
  have HB := hide (Bel.then h0 hb)
  have HX := hide hX
  have hfz : w1.frozen? ⟨w.heap.size, 0, none⟩ = false := kept_frozen hb (by simp) (new_unfrozen _ _ _ _)
  have HF : Hid (FreshA (w.heap.size + 1) X) := hide (hF.mono (by simp))
  clear c0 c1 c2 c3 h0 hb hX hF
  go_wp2_with fail
  refine (all_c _ _ _ _ _).mono ?_
  rintro e w2 ⟨Y, cy, rfl, hY, hb, _⟩
  replace HX := hide (Ints.kept ((HX.out.set HF.out _).more (by simp [World.setCell])) hb)
  replace HB := hide ((Below.setCell HB.out (p := ⟨w.heap.size, 0, none⟩) (Nat.le_refl _) _).trans (hb.mono (by have := HB.out.size; simpa [World.setCell] using this)))
  have HY := hide hY
  clear hb hY d0 d1 d2 d3 hfz
  generalize allL a b c d = zs at *
  generalize allL m b c d = ys at *
  go_wp2_with fail
  go_loopw [9] (fun i wr => ∃ k n : Nat, k ≤ 9 ∧ i = .int .i64 k ∧ wr = w2.drewN n) (fun i _ => 9 - (intOf i).toNat)
  case atStart => exact ⟨0, 0, by omega, rfl, rfl⟩
  case round =>
    obtain ⟨k, n, hk, rfl, rfl⟩ := hrel
    by_cases hlt : k < 9
    · obtain ⟨bx, ox, z, rfl, _, hx, _, HZ⟩ := HX.out.get hlt
      obtain ⟨byy, oy, y, rfl, _, hy, _, HZ2⟩ := HY.out.get hlt
      have f1 : decide (y < z) = false := by have := loop_rises zs ys HM.out hlt HZ.out HZ2.out; simp; omega
      go_wp2_with fail
      go_quiet (fail)
      go_wp2_with fail
      go_roundw
      case rel => exact ⟨k + 1, _, by omega, by go_num, rfl⟩
      case measure => simp [intOf]; omega
    · have hk9 : k = 9 := by omega
      subst hk9
      go_wp2_with (first | (go_at_call 9; refine (awake_c _).mono ?_; rintro e w' ⟨rfl, hb⟩; replace HB := hide (Bel.then (Bel.drewN HB.out _) hb); clear hb))
      go_ret
      exact ⟨rfl, HB.out⟩
theorem risesx_0 (a b c d m : Int) (w : World) (hm : m < a) : Calls Try.prog 4 #[.agg #[.int .i64 a, .int .i64 b, .int .i64 c, .int .i64 d], .int .i64 0, .int .i64 m] w fun e w' => e = .returned (.bool true) ∧ Below w.heap.size w w' := by
  obtain ⟨c0, c1, c2, c3⟩ := box4 w (.int .i64 a) (.int .i64 b) (.int .i64 c) (.int .i64 d) 22
  go_enter Try.func4, Try.ntmps4
  go_wp2_with (first | (go_at_call 9; refine (awake_c _).mono ?_; rintro e w' ⟨rfl, hb⟩))
  go_ret
  exact ⟨rfl, Bel.then (Bel.one w _) hb⟩
set_option maxHeartbeats 4000000 in
theorem rises_1 (a b c d m : Int) (w : World) (hm : b ≤ m) : Calls Try.prog 4 #[.agg #[.int .i64 a, .int .i64 b, .int .i64 c, .int .i64 d], .int .i64 1, .int .i64 m] w fun e w' => e = .returned (.bool true) ∧ Below w.heap.size w w' := by
  obtain ⟨c0, c1, c2, c3⟩ := box4 w (.int .i64 a) (.int .i64 b) (.int .i64 c) (.int .i64 d) 22
  have h0 := Bel.one w (.cells #[.int .i64 a, .int .i64 b, .int .i64 c, .int .i64 d] 22)
  have HM : Hid (∀ i, i < 9 → (allL a b c d).getD i 0 ≤ (allL a m c d).getD i 0) := allL_mono (Int.le_refl _) hm (Int.le_refl _) (Int.le_refl _)
  go_enter Try.func4, Try.ntmps4
  go_wp2_with fail
  refine (all_c _ _ _ _ _).mono ?_
  rintro e w1 ⟨X, cx, rfl, hX, hb, hF⟩
  have d0 := kept hb c0
  have d1 := kept hb c1
  have d2 := kept hb c2
  have d3 := kept hb c3
  have HB := hide (Bel.then h0 hb)
  have HX := hide hX
  have hfz : w1.frozen? ⟨w.heap.size, 1, none⟩ = false := kept_frozen hb (by simp) (new_unfrozen _ _ _ _)
  have HF : Hid (FreshA (w.heap.size + 1) X) := hide (hF.mono (by simp))
  clear c0 c1 c2 c3 h0 hb hX hF
  go_wp2_with fail
  refine (all_c _ _ _ _ _).mono ?_
  rintro e w2 ⟨Y, cy, rfl, hY, hb, _⟩
  replace HX := hide (Ints.kept ((HX.out.set HF.out _).more (by simp [World.setCell])) hb)
  replace HB := hide ((Below.setCell HB.out (p := ⟨w.heap.size, 1, none⟩) (Nat.le_refl _) _).trans (hb.mono (by have := HB.out.size; simpa [World.setCell] using this)))
  have HY := hide hY
  clear hb hY d0 d1 d2 d3 hfz
  generalize allL a b c d = zs at *
  generalize allL a m c d = ys at *
  go_wp2_with fail
  go_loopw [9] (fun i wr => ∃ k n : Nat, k ≤ 9 ∧ i = .int .i64 k ∧ wr = w2.drewN n) (fun i _ => 9 - (intOf i).toNat)
  case atStart => exact ⟨0, 0, by omega, rfl, rfl⟩
  case round =>
    obtain ⟨k, n, hk, rfl, rfl⟩ := hrel
    by_cases hlt : k < 9
    · obtain ⟨bx, ox, z, rfl, _, hx, _, HZ⟩ := HX.out.get hlt
      obtain ⟨byy, oy, y, rfl, _, hy, _, HZ2⟩ := HY.out.get hlt
      have f1 : decide (y < z) = false := by have := loop_rises zs ys HM.out hlt HZ.out HZ2.out; simp; omega
      go_wp2_with fail
      go_quiet (fail)
      go_wp2_with fail
      go_roundw
      case rel => exact ⟨k + 1, _, by omega, by go_num, rfl⟩
      case measure => simp [intOf]; omega
    · have hk9 : k = 9 := by omega
      subst hk9
      go_wp2_with (first | (go_at_call 9; refine (awake_c _).mono ?_; rintro e w' ⟨rfl, hb⟩; replace HB := hide (Bel.then (Bel.drewN HB.out _) hb); clear hb))
      go_ret
      exact ⟨rfl, HB.out⟩
theorem risesx_1 (a b c d m : Int) (w : World) (hm : m < b) : Calls Try.prog 4 #[.agg #[.int .i64 a, .int .i64 b, .int .i64 c, .int .i64 d], .int .i64 1, .int .i64 m] w fun e w' => e = .returned (.bool true) ∧ Below w.heap.size w w' := by
  obtain ⟨c0, c1, c2, c3⟩ := box4 w (.int .i64 a) (.int .i64 b) (.int .i64 c) (.int .i64 d) 22
  go_enter Try.func4, Try.ntmps4
  go_wp2_with (first | (go_at_call 9; refine (awake_c _).mono ?_; rintro e w' ⟨rfl, hb⟩))
  go_ret
  exact ⟨rfl, Bel.then (Bel.one w _) hb⟩
set_option maxHeartbeats 4000000 in
theorem rises_2 (a b c d m : Int) (w : World) (hm : c ≤ m) : Calls Try.prog 4 #[.agg #[.int .i64 a, .int .i64 b, .int .i64 c, .int .i64 d], .int .i64 2, .int .i64 m] w fun e w' => e = .returned (.bool true) ∧ Below w.heap.size w w' := by
  obtain ⟨c0, c1, c2, c3⟩ := box4 w (.int .i64 a) (.int .i64 b) (.int .i64 c) (.int .i64 d) 22
  have h0 := Bel.one w (.cells #[.int .i64 a, .int .i64 b, .int .i64 c, .int .i64 d] 22)
  have HM : Hid (∀ i, i < 9 → (allL a b c d).getD i 0 ≤ (allL a b m d).getD i 0) := allL_mono (Int.le_refl _) (Int.le_refl _) hm (Int.le_refl _)
  go_enter Try.func4, Try.ntmps4
  go_wp2_with fail
  refine (all_c _ _ _ _ _).mono ?_
  rintro e w1 ⟨X, cx, rfl, hX, hb, hF⟩
  have d0 := kept hb c0
  have d1 := kept hb c1
  have d2 := kept hb c2
  have d3 := kept hb c3
  have HB := hide (Bel.then h0 hb)
  have HX := hide hX
  have hfz : w1.frozen? ⟨w.heap.size, 2, none⟩ = false := kept_frozen hb (by simp) (new_unfrozen _ _ _ _)
  have HF : Hid (FreshA (w.heap.size + 1) X) := hide (hF.mono (by simp))
  clear c0 c1 c2 c3 h0 hb hX hF
  go_wp2_with fail
  refine (all_c _ _ _ _ _).mono ?_
  rintro e w2 ⟨Y, cy, rfl, hY, hb, _⟩
  replace HX := hide (Ints.kept ((HX.out.set HF.out _).more (by simp [World.setCell])) hb)
  replace HB := hide ((Below.setCell HB.out (p := ⟨w.heap.size, 2, none⟩) (Nat.le_refl _) _).trans (hb.mono (by have := HB.out.size; simpa [World.setCell] using this)))
  have HY := hide hY
  clear hb hY d0 d1 d2 d3 hfz
  generalize allL a b c d = zs at *
  generalize allL a b m d = ys at *
  go_wp2_with fail
  go_loopw [9] (fun i wr => ∃ k n : Nat, k ≤ 9 ∧ i = .int .i64 k ∧ wr = w2.drewN n) (fun i _ => 9 - (intOf i).toNat)
  case atStart => exact ⟨0, 0, by omega, rfl, rfl⟩
  case round =>
    obtain ⟨k, n, hk, rfl, rfl⟩ := hrel
    by_cases hlt : k < 9
    · obtain ⟨bx, ox, z, rfl, _, hx, _, HZ⟩ := HX.out.get hlt
      obtain ⟨byy, oy, y, rfl, _, hy, _, HZ2⟩ := HY.out.get hlt
      have f1 : decide (y < z) = false := by have := loop_rises zs ys HM.out hlt HZ.out HZ2.out; simp; omega
      go_wp2_with fail
      go_quiet (fail)
      go_wp2_with fail
      go_roundw
      case rel => exact ⟨k + 1, _, by omega, by go_num, rfl⟩
      case measure => simp [intOf]; omega
    · have hk9 : k = 9 := by omega
      subst hk9
      go_wp2_with (first | (go_at_call 9; refine (awake_c _).mono ?_; rintro e w' ⟨rfl, hb⟩; replace HB := hide (Bel.then (Bel.drewN HB.out _) hb); clear hb))
      go_ret
      exact ⟨rfl, HB.out⟩
theorem risesx_2 (a b c d m : Int) (w : World) (hm : m < c) : Calls Try.prog 4 #[.agg #[.int .i64 a, .int .i64 b, .int .i64 c, .int .i64 d], .int .i64 2, .int .i64 m] w fun e w' => e = .returned (.bool true) ∧ Below w.heap.size w w' := by
  obtain ⟨c0, c1, c2, c3⟩ := box4 w (.int .i64 a) (.int .i64 b) (.int .i64 c) (.int .i64 d) 22
  go_enter Try.func4, Try.ntmps4
  go_wp2_with (first | (go_at_call 9; refine (awake_c _).mono ?_; rintro e w' ⟨rfl, hb⟩))
  go_ret
  exact ⟨rfl, Bel.then (Bel.one w _) hb⟩
set_option maxHeartbeats 4000000 in
theorem rises_3 (a b c d m : Int) (w : World) (hm : d ≤ m) : Calls Try.prog 4 #[.agg #[.int .i64 a, .int .i64 b, .int .i64 c, .int .i64 d], .int .i64 3, .int .i64 m] w fun e w' => e = .returned (.bool true) ∧ Below w.heap.size w w' := by
  obtain ⟨c0, c1, c2, c3⟩ := box4 w (.int .i64 a) (.int .i64 b) (.int .i64 c) (.int .i64 d) 22
  have h0 := Bel.one w (.cells #[.int .i64 a, .int .i64 b, .int .i64 c, .int .i64 d] 22)
  have HM : Hid (∀ i, i < 9 → (allL a b c d).getD i 0 ≤ (allL a b c m).getD i 0) := allL_mono (Int.le_refl _) (Int.le_refl _) (Int.le_refl _) hm
  go_enter Try.func4, Try.ntmps4
  go_wp2_with fail
  refine (all_c _ _ _ _ _).mono ?_
  rintro e w1 ⟨X, cx, rfl, hX, hb, hF⟩
  have d0 := kept hb c0
  have d1 := kept hb c1
  have d2 := kept hb c2
  have d3 := kept hb c3
  have HB := hide (Bel.then h0 hb)
  have HX := hide hX
  have hfz : w1.frozen? ⟨w.heap.size, 3, none⟩ = false := kept_frozen hb (by simp) (new_unfrozen _ _ _ _)
  have HF : Hid (FreshA (w.heap.size + 1) X) := hide (hF.mono (by simp))
  clear c0 c1 c2 c3 h0 hb hX hF
  go_wp2_with fail
  refine (all_c _ _ _ _ _).mono ?_
  rintro e w2 ⟨Y, cy, rfl, hY, hb, _⟩
  replace HX := hide (Ints.kept ((HX.out.set HF.out _).more (by simp [World.setCell])) hb)
  replace HB := hide ((Below.setCell HB.out (p := ⟨w.heap.size, 3, none⟩) (Nat.le_refl _) _).trans (hb.mono (by have := HB.out.size; simpa [World.setCell] using this)))
  have HY := hide hY
  clear hb hY d0 d1 d2 d3 hfz
  generalize allL a b c d = zs at *
  generalize allL a b c m = ys at *
  go_wp2_with fail
  go_loopw [9] (fun i wr => ∃ k n : Nat, k ≤ 9 ∧ i = .int .i64 k ∧ wr = w2.drewN n) (fun i _ => 9 - (intOf i).toNat)
  case atStart => exact ⟨0, 0, by omega, rfl, rfl⟩
  case round =>
    obtain ⟨k, n, hk, rfl, rfl⟩ := hrel
    by_cases hlt : k < 9
    · obtain ⟨bx, ox, z, rfl, _, hx, _, HZ⟩ := HX.out.get hlt
      obtain ⟨byy, oy, y, rfl, _, hy, _, HZ2⟩ := HY.out.get hlt
      have f1 : decide (y < z) = false := by have := loop_rises zs ys HM.out hlt HZ.out HZ2.out; simp; omega
      go_wp2_with fail
      go_quiet (fail)
      go_wp2_with fail
      go_roundw
      case rel => exact ⟨k + 1, _, by omega, by go_num, rfl⟩
      case measure => simp [intOf]; omega
    · have hk9 : k = 9 := by omega
      subst hk9
      go_wp2_with (first | (go_at_call 9; refine (awake_c _).mono ?_; rintro e w' ⟨rfl, hb⟩; replace HB := hide (Bel.then (Bel.drewN HB.out _) hb); clear hb))
      go_ret
      exact ⟨rfl, HB.out⟩
theorem risesx_3 (a b c d m : Int) (w : World) (hm : m < d) : Calls Try.prog 4 #[.agg #[.int .i64 a, .int .i64 b, .int .i64 c, .int .i64 d], .int .i64 3, .int .i64 m] w fun e w' => e = .returned (.bool true) ∧ Below w.heap.size w w' := by
  obtain ⟨c0, c1, c2, c3⟩ := box4 w (.int .i64 a) (.int .i64 b) (.int .i64 c) (.int .i64 d) 22
  go_enter Try.func4, Try.ntmps4
  go_wp2_with (first | (go_at_call 9; refine (awake_c _).mono ?_; rintro e w' ⟨rfl, hb⟩))
  go_ret
  exact ⟨rfl, Bel.then (Bel.one w _) hb⟩
theorem risesx (a b c d i m : Int) (w : World) (hi : i < 0 ∨ 3 < i) : Calls Try.prog 4 #[.agg #[.int .i64 a, .int .i64 b, .int .i64 c, .int .i64 d], .int .i64 i, .int .i64 m] w fun e w' => e = .returned (.bool true) ∧ Below w.heap.size w w' := by
  rcases hi with hi | hi
  all_goals
    go_enter Try.func4, Try.ntmps4
    go_wp2_with (first | (go_at_call 9; refine (awake_c _).mono ?_; rintro e w' ⟨rfl, hb⟩))
    go_ret
    exact ⟨rfl, Bel.then (Bel.one w _) hb⟩
theorem rises_w (a b c d i m : Int) (w : World) : Calls Try.prog 4 #[.agg #[.int .i64 a, .int .i64 b, .int .i64 c, .int .i64 d], .int .i64 i, .int .i64 m] w fun e w' => e = .returned (.bool true) ∧ Below w.heap.size w w' := by
  by_cases hi : i < 0 ∨ 3 < i
  · exact risesx a b c d i m w hi
  · have h : i = 0 ∨ i = 1 ∨ i = 2 ∨ i = 3 := by omega
    rcases h with rfl | rfl | rfl | rfl
    · rcases Int.lt_or_le m a with h | h
      · exact risesx_0 a b c d m w h
      · exact rises_0 a b c d m w h
    · rcases Int.lt_or_le m b with h | h
      · exact risesx_1 a b c d m w h
      · exact rises_1 a b c d m w h
    · rcases Int.lt_or_le m c with h | h
      · exact risesx_2 a b c d m w h
      · exact rises_2 a b c d m w h
    · rcases Int.lt_or_le m d with h | h
      · exact risesx_3 a b c d m w h
      · exact rises_3 a b c d m w h
end Go.Proofs.Ytnkfimpfnofhnaa

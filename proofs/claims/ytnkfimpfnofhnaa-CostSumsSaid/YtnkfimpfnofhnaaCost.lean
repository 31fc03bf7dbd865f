/- Contracts of package cost and of its reference: each returns the number that CostMath names. -/
import Derived.Test.YtnkfimpfnofhnaaRows
import Derived.Test.YtnkfimpfnofhnaaLib
import Derived.Test.YtnkfimpfnofhnaaCostMath
namespace Go.Proofs.Ytnkfimpfnofhnaa
set_option linter.unusedVariables false
open Go.ChangeShapes Go.WideShapes Go.ChangeAt Go.RowKit

theorem bounded_c (n : Int) (w : World) : Calls Try.prog 29 #[.int .i64 n] w fun e w' => e = .returned (.int .i64 (bI n)) ∧ w = w' := by
  go_enter Try.func29, Try.ntmps29
  go_wp2
  all_goals (go_ret; refine ⟨ret_int ?_, rfl⟩; unfold bI; repeat' split <;> omega)
theorem in_c (n : Int) (w : World) : Calls Try.prog 30 #[.int .i64 n] w fun e w' => e = .returned (.int .i64 (bI n)) ∧ w = w' := by
  go_enter Try.func30, Try.ntmps30
  go_wp2
  all_goals (go_ret; refine ⟨ret_int ?_, rfl⟩; unfold bI; repeat' split <;> omega)
theorem sumI_step {zs : List Int} {k : Nat} {z : Int} (h : zs.take (k + 1) = zs.take k ++ [z]) : bI (sumI (zs.take k) + z) = sumI (zs.take (k + 1)) := by rw [h, sumI_snoc]
theorem sum_c (A : Option Addr) (n c : Nat) (zs : List Int) (B : Nat) (w : World) (hz : Ints w B A n zs) (hm : n ≤ 100) (h0 : ∀ z ∈ zs, 0 ≤ z ∧ z ≤ 100000000000000) :
    Calls Try.prog 28 #[.slice A n c] w fun e w' => e = .returned (.int .i64 (sumI zs)) ∧ w = w' := by
  have HL := hide hz.1
  have HZ := hide hz
  have H0 := hide h0
  clear hz h0
  go_enter Try.func28, Try.ntmps28
  go_wp2
  go_loop [3, 5, 8] (fun a _ i => ∃ k : Nat, k ≤ n ∧ i = .int .i64 k ∧ a = .int .i64 (sumI (zs.take k))) (fun _ _ i => n - (intOf i).toNat)
  case atStart => exact ⟨0, Nat.zero_le _, rfl, rfl⟩
  case round =>
    obtain ⟨k, hk, rfl, rfl⟩ := hrel
    by_cases hlt : k < n
    · obtain ⟨b, off, z, rfl, hb, hck, HT, HG⟩ := HZ.out.get hlt
      have hz0 := H0.out z (by rw [← HG.out]; have : k < zs.length := by rw [HL.out]; exact hlt
                               simp [List.getD, this])
      have hs0 := sumI_bd (zs.take k)
      go_wp2_with (first | (go_at_call 29; refine (bounded_c _ _).mono ?_; rintro e w' ⟨rfl, rfl⟩))
      go_round
      case rel => exact ⟨k + 1, by omega, by go_num, by rw [sumI_step HT.out]⟩
      case measure => simp [intOf]; omega
    · go_wp2_with (first | (go_at_call 29; refine (bounded_c _ _).mono ?_; rintro e w' ⟨rfl, rfl⟩))
      go_ret
      exact ⟨ret_int (by rw [List.take_of_length_le (by rw [HL.out]; omega)]), rfl⟩
theorem sum2_c (x y : Int) (w : World) (t : TypeId) (hx : 0 ≤ x ∧ x ≤ 100000000000000) (hy : 0 ≤ y ∧ y ≤ 100000000000000) :
    Calls Try.prog 28 #[.slice (some ⟨w.heap.size, 0, none⟩) 2 2] (w.alloc (.cells #[.int .i64 x, .int .i64 y] t)) fun e w' => e = .returned (.int .i64 (bI (x + y))) ∧ w.alloc (.cells #[.int .i64 x, .int .i64 y] t) = w' := by
  rw [← sumI2 hx.1 hy.1]
  exact sum_c _ 2 2 [x, y] _ _ (ints_lit w [x, y] t rfl rfl) (by omega) (by simp; omega)
theorem sum4_c (x y z u : Int) (w : World) (t : TypeId) (hx : 0 ≤ x ∧ x ≤ 100000000000000) (hy : 0 ≤ y ∧ y ≤ 100000000000000) (hz : 0 ≤ z ∧ z ≤ 100000000000000) (hu : 0 ≤ u ∧ u ≤ 100000000000000) :
    Calls Try.prog 28 #[.slice (some ⟨w.heap.size, 0, none⟩) 4 4] (w.alloc (.cells #[.int .i64 x, .int .i64 y, .int .i64 z, .int .i64 u] t)) fun e w' => e = .returned (.int .i64 (bI (x + y + z + u))) ∧ w.alloc (.cells #[.int .i64 x, .int .i64 y, .int .i64 z, .int .i64 u] t) = w' := by
  rw [← sumI4 hx.1 hy.1 hz.1 hu.1]
  exact sum_c _ 4 4 [x, y, z, u] _ _ (ints_lit w [x, y, z, u] t rfl rfl) (by omega) (by simp; omega)
theorem add_c (a b : Int) (w : World) : Calls Try.prog 10 #[.int .i64 a, .int .i64 b] w fun e w' => e = .returned (.int .i64 (addI a b)) ∧ Below w.heap.size w w' := by
  have ha := bI_bd a
  have hb := bI_bd b
  go_enter Try.func10, Try.ntmps10
  go_wp2_with (first | (go_at_call 29; refine (bounded_c _ _).mono ?_; rintro e w' ⟨rfl, rfl⟩) | (go_at_call 28; refine (sum2_c _ _ _ _ (by omega) (by omega)).mono ?_; rintro e w' ⟨rfl, rfl⟩))
  go_ret
  exact ⟨rfl, Bel.one _ _⟩
theorem scan_c (a b : Int) (w : World) : Calls Try.prog 17 #[.int .i64 a, .int .i64 b] w fun e w' => e = .returned (.int .i64 (scanI a b)) ∧ Below w.heap.size w w' := by
  have ha := bI_bd a
  have hb := bI_bd b
  go_enter Try.func17, Try.ntmps17
  go_wp2_with (first | (go_at_call 29; refine (bounded_c _ _).mono ?_; rintro e w' ⟨rfl, rfl⟩) | (go_at_call 28; refine (sum2_c _ _ _ _ (by omega) (by omega)).mono ?_; rintro e w' ⟨rfl, rfl⟩))
  go_ret
  exact ⟨rfl, Bel.one _ _⟩
theorem seek_c (a b : Int) (w : World) : Calls Try.prog 18 #[.int .i64 a, .int .i64 b] w fun e w' => e = .returned (.int .i64 (seekI a b)) ∧ Below w.heap.size w w' := by
  have ha := bI_bd a
  have hb := bI_bd b
  go_enter Try.func18, Try.ntmps18
  go_wp2_with (first | (go_at_call 29; refine (bounded_c _ _).mono ?_; rintro e w' ⟨rfl, rfl⟩) | (go_at_call 28; refine (sum2_c _ _ _ _ (by omega) (by omega)).mono ?_; rintro e w' ⟨rfl, rfl⟩))
  go_ret
  exact ⟨rfl, Bel.one _ _⟩
theorem hash_c (a b c d : Int) (w : World) : Calls Try.prog 13 #[.int .i64 a, .int .i64 b, .int .i64 c, .int .i64 d] w fun e w' => e = .returned (.int .i64 (hashI a b c d)) ∧ Below w.heap.size w w' := by
  have ha := bI_bd a
  have hb := bI_bd b
  have hc := bI_bd c
  have hd := bI_bd d
  go_enter Try.func13, Try.ntmps13
  go_wp2_with (first | (go_at_call 29; refine (bounded_c _ _).mono ?_; rintro e w' ⟨rfl, rfl⟩) | (go_at_call 28; refine (sum4_c _ _ _ _ _ _ (by omega) (by omega) (by omega) (by omega)).mono ?_; rintro e w' ⟨rfl, rfl⟩))
  go_ret
  exact ⟨rfl, Bel.one _ _⟩
theorem mul_c (a b : Int) (w : World) : Calls Try.prog 11 #[.int .i64 a, .int .i64 b] w fun e w' => e = .returned (.int .i64 (mulI a b)) ∧ w = w' := by
  have ha := bI_bd a
  have hb := bI_bd b
  unfold mulI
  generalize ea : bI a = x at *
  generalize eb : bI b = y at *
  have EA := hide ea
  have EB := hide eb
  clear ea eb
  by_cases hy : y = 0
  · subst hy
    go_enter Try.func11, Try.ntmps11
    go_wp2_with (first | (go_at_call 29; refine (bounded_c _ _).mono ?_; (first | rw [EA.out] | rw [EB.out]); rintro e w' ⟨rfl, rfl⟩))
    go_ret
    exact ⟨ret_int (by simp [bI]), rfl⟩
  · by_cases hq : 1000000000000 / y < x
    · have h1 := mulI_over ha.1 (by omega) hq
      go_enter Try.func11, Try.ntmps11
      go_wp2_with (first | (go_at_call 29; refine (bounded_c _ _).mono ?_; (first | rw [EA.out] | rw [EB.out]); rintro e w' ⟨rfl, rfl⟩))
      go_ret
      exact ⟨ret_int (by  have h1 := h1; unfold bI; repeat' split <;> omega), rfl⟩
    · have h1 := mulI_fits ha.1 (by omega) hq
      have h2 := mul_nn ha.1 hb.1
      skip
      go_enter Try.func11, Try.ntmps11
      go_wp2_with (first | (go_at_call 29; refine (bounded_c _ _).mono ?_; (first | rw [EA.out] | rw [EB.out]); rintro e w' ⟨rfl, rfl⟩))
      go_ret
      exact ⟨ret_int (bI_id h2 h1).symm, rfl⟩
theorem rmul_c (a b : Int) (w : World) : Calls Try.prog 20 #[.int .i64 a, .int .i64 b] w fun e w' => e = .returned (.int .i64 (mulI a b)) ∧ w = w' := by
  have ha := bI_bd a
  have hb := bI_bd b
  unfold mulI
  generalize ea : bI a = x at *
  generalize eb : bI b = y at *
  have EA := hide ea
  have EB := hide eb
  clear ea eb
  by_cases hy : x = 0
  · subst hy
    go_enter Try.func20, Try.ntmps20
    go_wp2_with (first | (go_at_call 30; refine (in_c _ _).mono ?_; (first | rw [EA.out] | rw [EB.out]); rintro e w' ⟨rfl, rfl⟩))
    go_ret
    exact ⟨ret_int (by simp [bI]), rfl⟩
  · by_cases hq : 1000000000000 / x < y
    · have h1 := mulI_over hb.1 (by omega) hq
      go_enter Try.func20, Try.ntmps20
      go_wp2_with (first | (go_at_call 30; refine (in_c _ _).mono ?_; (first | rw [EA.out] | rw [EB.out]); rintro e w' ⟨rfl, rfl⟩))
      go_ret
      exact ⟨ret_int (by rw [Int.mul_comm] at h1; have h1 := h1; unfold bI; repeat' split <;> omega), rfl⟩
    · have h1 := mulI_fits hb.1 (by omega) hq
      have h2 := mul_nn ha.1 hb.1
      rw [Int.mul_comm] at h1
      go_enter Try.func20, Try.ntmps20
      go_wp2_with (first | (go_at_call 30; refine (in_c _ _).mono ?_; (first | rw [EA.out] | rw [EB.out]); rintro e w' ⟨rfl, rfl⟩))
      go_ret
      exact ⟨ret_int (bI_id h2 h1).symm, rfl⟩
theorem radd_c (a b : Int) (w : World) : Calls Try.prog 19 #[.int .i64 a, .int .i64 b] w fun e w' => e = .returned (.int .i64 (addI a b)) ∧ w = w' := by
  have ha := bI_bd a
  have hb := bI_bd b
  go_enter Try.func19, Try.ntmps19
  go_wp2_with (first | (go_at_call 30; refine (in_c _ _).mono ?_; rintro e w' ⟨rfl, rfl⟩))
  go_ret
  exact ⟨rfl, rfl⟩
theorem nest_c (l lc rc : Int) (w : World) : Calls Try.prog 12 #[.int .i64 l, .int .i64 lc, .int .i64 rc] w fun e w' => e = .returned (.int .i64 (nestI l lc rc)) ∧ Below w.heap.size w w' := by
  go_enter Try.func12, Try.ntmps12
  go_wp2_with (first | (go_at_call 11; refine (mul_c _ _ _).mono ?_; rintro e w' ⟨rfl, rfl⟩) | (go_at_call 10; refine (add_c _ _ _).mono ?_; rintro e w' ⟨rfl, hb⟩))
  go_ret
  exact ⟨rfl, hb⟩
theorem each_c (n c : Int) (w : World) : Calls Try.prog 16 #[.int .i64 n, .int .i64 c] w fun e w' => e = .returned (.int .i64 (eachI n c)) ∧ Below w.heap.size w w' := by
  go_enter Try.func16, Try.ntmps16
  go_wp2_with (first | (go_at_call 10; refine (add_c _ _ _).mono ?_; rintro e w' ⟨rfl, hb⟩))
  go_ret
  exact ⟨rfl, hb⟩
theorem rscan_c (p r : Int) (w : World) : Calls Try.prog 21 #[.int .i64 p, .int .i64 r] w fun e w' => e = .returned (.int .i64 (scanI p r)) ∧ w = w' := by
  go_enter Try.func21, Try.ntmps21
  go_wp2_with (first | (go_at_call 20; refine (rmul_c _ _ _).mono ?_; rintro e w' ⟨rfl, rfl⟩) | (go_at_call 19; refine (radd_c _ _ _).mono ?_; rintro e w' ⟨rfl, rfl⟩))
  go_ret
  exact ⟨ret_int (ref_scan p r), rfl⟩
theorem rseek_c (h r : Int) (w : World) : Calls Try.prog 22 #[.int .i64 h, .int .i64 r] w fun e w' => e = .returned (.int .i64 (seekI h r)) ∧ w = w' := by
  go_enter Try.func22, Try.ntmps22
  go_wp2_with (first | (go_at_call 20; refine (rmul_c _ _ _).mono ?_; rintro e w' ⟨rfl, rfl⟩) | (go_at_call 19; refine (radd_c _ _ _).mono ?_; rintro e w' ⟨rfl, rfl⟩))
  go_ret
  exact ⟨ret_int (ref_seek h r), rfl⟩
theorem rnest_c (l lc rc : Int) (w : World) : Calls Try.prog 23 #[.int .i64 l, .int .i64 lc, .int .i64 rc] w fun e w' => e = .returned (.int .i64 (nestI l lc rc)) ∧ w = w' := by
  go_enter Try.func23, Try.ntmps23
  go_wp2_with (first | (go_at_call 20; refine (rmul_c _ _ _).mono ?_; rintro e w' ⟨rfl, rfl⟩) | (go_at_call 19; refine (radd_c _ _ _).mono ?_; rintro e w' ⟨rfl, rfl⟩))
  go_ret
  exact ⟨ret_int (rfl), rfl⟩
theorem rhash_c (l lc r rc : Int) (w : World) : Calls Try.prog 24 #[.int .i64 l, .int .i64 lc, .int .i64 r, .int .i64 rc] w fun e w' => e = .returned (.int .i64 (hashI l lc r rc)) ∧ w = w' := by
  go_enter Try.func24, Try.ntmps24
  go_wp2_with (first | (go_at_call 20; refine (rmul_c _ _ _).mono ?_; rintro e w' ⟨rfl, rfl⟩) | (go_at_call 19; refine (radd_c _ _ _).mono ?_; rintro e w' ⟨rfl, rfl⟩))
  go_ret
  exact ⟨ret_int (ref_hash l lc r rc), rfl⟩
theorem reach_c (n c : Int) (w : World) : Calls Try.prog 27 #[.int .i64 n, .int .i64 c] w fun e w' => e = .returned (.int .i64 (eachI n c)) ∧ w = w' := by
  go_enter Try.func27, Try.ntmps27
  go_wp2_with (first | (go_at_call 20; refine (rmul_c _ _ _).mono ?_; rintro e w' ⟨rfl, rfl⟩) | (go_at_call 19; refine (radd_c _ _ _).mono ?_; rintro e w' ⟨rfl, rfl⟩))
  go_ret
  exact ⟨ret_int (rfl), rfl⟩
theorem sort_c (n c : Int) (w : World) : Calls Try.prog 15 #[.int .i64 n, .int .i64 c] w fun e w' => e = .returned (.int .i64 (sortI n c)) ∧ Below w.heap.size w w' := by
  have hn := bI_bd n
  have hc := bI_bd c
  have hnd := nd_bd n
  have hdn := digI_bd (bI n) hn.2
  unfold sortI
  generalize en : bI n = x at *
  generalize ec : bI c = y at *
  have EN := hide en
  have EC := hide ec
  clear en ec
  go_enter Try.func15, Try.ntmps15
  go_wp2_with (first | (go_at_call 29; refine (bounded_c _ _).mono ?_; (first | rw [EN.out] | rw [EC.out]); rintro e w' ⟨rfl, rfl⟩))
  go_loop [5, 6] (fun d r => ∃ m k : Int, r = .int .i64 m ∧ d = .int .i64 k ∧ 0 ≤ m ∧ m ≤ x ∧ 0 ≤ k ∧ Hid (k + digI m = digI x)) (fun _ r => (intOf r).toNat)
  case atStart => exact ⟨x, 0, rfl, rfl, hn.1, Int.le_refl _, Int.le_refl _, by show 0 + digI x = digI x; omega⟩
  case round =>
    obtain ⟨m, k, rfl, rfl, hm0, hmx, hk0, HK⟩ := hrel
    have hdm := digI_bd m (by omega)
    have hk40 : k ≤ 40 := by have := HK.out; omega
    by_cases hm : 0 < m
    · go_wp2_with (first | (go_at_call 29; refine (bounded_c _ _).mono ?_; (first | rw [EN.out] | rw [EC.out]); rintro e w' ⟨rfl, rfl⟩))
      go_round
      case rel => exact ⟨m / 2, k + 1, rfl, rfl, by omega, by omega, by omega, by have h := HK.out; rw [digI_pos hm] at h; show k + 1 + digI (m / 2) = digI x; omega⟩
      case measure => simp [intOf]; omega
    · have hm1 : m = 0 := by omega
      subst hm1
      have hkx : k = digI x := by have h := HK.out; rw [digI_zero] at h; omega
      subst hkx
      go_wp2_with (first | (go_at_call 29; refine (bounded_c _ _).mono ?_; (first | rw [EN.out] | rw [EC.out]); rintro e w' ⟨rfl, rfl⟩) | (go_at_call 28; refine (sum2_c _ _ _ _ (by omega) (by omega)).mono ?_; rintro e w' ⟨rfl, rfl⟩))
      go_ret
      exact ⟨rfl, Bel.one _ _⟩
theorem digits_c (x : Int) (w : World) (h0 : 0 ≤ x) (h1 : x ≤ 1000000000000) : Calls Try.prog 31 #[.int .i64 x] w fun e w' => e = .returned (.int .i64 (digI x)) ∧ w = w' := by
  have hdn := digI_bd x h1
  go_enter Try.func31, Try.ntmps31
  go_wp2
  go_loop [0, 3] (fun r d => ∃ m k : Int, r = .int .i64 m ∧ d = .int .i64 k ∧ 0 ≤ m ∧ m ≤ x ∧ 0 ≤ k ∧ Hid (k + digI m = digI x)) (fun r _ => (intOf r).toNat)
  case atStart => exact ⟨x, 0, rfl, rfl, h0, Int.le_refl _, Int.le_refl _, by show 0 + digI x = digI x; omega⟩
  case round =>
    obtain ⟨m, k, rfl, rfl, hm0, hmx, hk0, HK⟩ := hrel
    have hdm := digI_bd m (by omega)
    have hk40 : k ≤ 40 := by have := HK.out; omega
    by_cases hm : 0 < m
    · go_wp2
      go_round
      case rel => exact ⟨m / 2, k + 1, rfl, rfl, by omega, by omega, by omega, by have h := HK.out; rw [digI_pos hm] at h; show k + 1 + digI (m / 2) = digI x; omega⟩
      case measure => simp [intOf]; omega
    · have hm1 : m = 0 := by omega
      subst hm1
      have hkx : k = digI x := by have h := HK.out; rw [digI_zero] at h; omega
      subst hkx
      go_wp2
      go_ret
      exact ⟨rfl, rfl⟩
theorem rsort_c (n c : Int) (w : World) : Calls Try.prog 26 #[.int .i64 n, .int .i64 c] w fun e w' => e = .returned (.int .i64 (sortI n c)) ∧ w = w' := by
  have hn := bI_bd n
  go_enter Try.func26, Try.ntmps26
  go_wp2_with (first | (go_at_call 30; refine (in_c _ _).mono ?_; rintro e w' ⟨rfl, rfl⟩) | (go_at_call 31; refine (digits_c _ _ hn.1 hn.2).mono ?_; rintro e w' ⟨rfl, rfl⟩) | (go_at_call 20; refine (rmul_c _ _ _).mono ?_; rintro e w' ⟨rfl, rfl⟩) | (go_at_call 19; refine (radd_c _ _ _).mono ?_; rintro e w' ⟨rfl, rfl⟩))
  go_ret
  exact ⟨ret_int (ref_sort n c), rfl⟩
theorem merge_c (l lc r rc : Int) (w : World) : Calls Try.prog 14 #[.int .i64 l, .int .i64 lc, .int .i64 r, .int .i64 rc] w fun e w' => e = .returned (.int .i64 (mergeI l lc r rc)) ∧ Below w.heap.size w w' := by
  have h1 := bI_bd l
  have h2 := bI_bd r
  have s1 : 0 ≤ sortI l lc ∧ sortI l lc ≤ 1000000000000 := bI_bd _
  have s2 : 0 ≤ sortI r rc ∧ sortI r rc ≤ 1000000000000 := bI_bd _
  go_enter Try.func14, Try.ntmps14
  go_wp2_with fail
  refine (sort_c _ _ _).mono ?_
  rintro e w1 ⟨rfl, hb1⟩
  go_wp2_with fail
  refine (sort_c _ _ _).mono ?_
  rintro e w2 ⟨rfl, hb2⟩
  go_wp2_with (first | (go_at_call 29; refine (bounded_c _ _).mono ?_; rintro e w' ⟨rfl, rfl⟩) | (go_at_call 28; refine (sum4_c _ _ _ _ _ _ (by omega) (by omega) (by omega) (by omega)).mono ?_; rintro e w' ⟨rfl, rfl⟩))
  go_ret
  exact ⟨rfl, Bel.alloc (Bel.then hb1 hb2) _⟩
theorem rmerge_c (l lc r rc : Int) (w : World) : Calls Try.prog 25 #[.int .i64 l, .int .i64 lc, .int .i64 r, .int .i64 rc] w fun e w' => e = .returned (.int .i64 (mergeI l lc r rc)) ∧ w = w' := by
  go_enter Try.func25, Try.ntmps25
  go_wp2_with (first | (go_at_call 26; refine (rsort_c _ _ _).mono ?_; rintro e w' ⟨rfl, rfl⟩) | (go_at_call 19; refine (radd_c _ _ _).mono ?_; rintro e w' ⟨rfl, rfl⟩))
  go_ret
  exact ⟨ret_int (ref_merge l lc r rc), rfl⟩
end Go.Proofs.Ytnkfimpfnofhnaa

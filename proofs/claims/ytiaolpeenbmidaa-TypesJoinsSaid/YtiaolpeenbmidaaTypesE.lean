/- Contracts of package types and of its reference: functions, aggregates, columns. -/
import Derived.Test.YtiaolpeenbmidaaTypesD
import Derived.Test.YtiaolpeenbmidaaValueA
namespace Go.Proofs.Ytiaolpeenbmidaa
set_option linter.unusedVariables false
open Go.ChangeShapes Go.WideShapes Go.ChangeAt Go.RowKit

def aggI (name : ByteArray) (k : Int) : Int × Int :=
  if name.toList == [99, 111, 117, 110, 116] then resI 2 (isK k) else if name.toList == [115, 117, 109] then resI 2 (joinB 2 k) else if name.toList == [109, 105, 110] then resI k (isK k) else if name.toList == [109, 97, 120] then resI k (isK k) else (0, 6)
theorem agg_cases (name : ByteArray) (k : Int) : ((name.toList == [99, 111, 117, 110, 116]) = true ∧ aggI name k = resI 2 (isK k)) ∨ ((name.toList == [99, 111, 117, 110, 116]) = false ∧ (name.toList == [115, 117, 109]) = true ∧ aggI name k = resI 2 (joinB 2 k)) ∨
    ((name.toList == [99, 111, 117, 110, 116]) = false ∧ (name.toList == [115, 117, 109]) = false ∧ (name.toList == [109, 105, 110]) = true ∧ aggI name k = resI k (isK k)) ∨
    ((name.toList == [99, 111, 117, 110, 116]) = false ∧ (name.toList == [115, 117, 109]) = false ∧ (name.toList == [109, 105, 110]) = false ∧ (name.toList == [109, 97, 120]) = true ∧ aggI name k = resI k (isK k)) ∨
    ((name.toList == [99, 111, 117, 110, 116]) = false ∧ (name.toList == [115, 117, 109]) = false ∧ (name.toList == [109, 105, 110]) = false ∧ (name.toList == [109, 97, 120]) = false ∧ aggI name k = (0, 6)) := by
  unfold aggI
  cases h1 : (name.toList == [99, 111, 117, 110, 116]) <;> cases h2 : (name.toList == [115, 117, 109]) <;> cases h3 : (name.toList == [109, 105, 110]) <;> cases h4 : (name.toList == [109, 97, 120]) <;> simp
theorem fits1_c (kk k : Int) (w : World) (t : TypeId) : Calls Try.prog 21 #[.int .i64 kk, .slice (some ⟨w.heap.size, 0, none⟩) 1 1] (w.alloc (.cells #[.int .i64 k] t)) fun e w' => e = .returned (.bool (joinB kk k)) ∧ w.alloc (.cells #[.int .i64 k] t) = w' := by
  have h := fits_c kk _ 1 1 [k] _ _ (ints_lit w [k] t rfl rfl) (by omega)
  simpa [fitsL] using h
theorem agg_c (name : ByteArray) (k : Int) (w : World) : Calls Try.prog 15 #[.string name, .int .i64 k] w fun e w' => e = .returned (.tuple #[.int .i64 (aggI name k).1, .int .i64 (aggI name k).2]) ∧ Below w.heap.size w w' := by
  have hc := agg_cases name k
  generalize aggI name k = p at *
  rcases hc with ⟨h1, rfl⟩ | ⟨h1, h2, rfl⟩ | ⟨h1, h2, h3, rfl⟩ | ⟨h1, h2, h3, h4, rfl⟩ | ⟨h1, h2, h3, h4, rfl⟩
  all_goals
    go_enter Try.func15, Try.ntmps15
    go_wp2_with (first | (go_at_call 22; refine (isKind_c _ _).mono ?_; rintro e w' ⟨rfl, rfl⟩) | (go_at_call 21; refine (fits1_c _ _ _ _).mono ?_; rintro e w' ⟨rfl, rfl⟩) | (go_at_call 20; refine (result_c _ _ _).mono ?_; rintro e w' ⟨rfl, rfl⟩))
    go_ret2
    first | exact ⟨rfl, Below.refl _ _⟩ | exact ⟨rfl, Bel.one _ _⟩
theorem ragg_c (name : ByteArray) (k : Int) (w : World) : Calls Try.prog 16 #[.string name, .int .i64 k] w fun e w' => e = .returned (.tuple #[.int .i64 (aggI name k).1, .int .i64 (aggI name k).2]) ∧ w = w' := by
  have hc := agg_cases name k
  generalize aggI name k = p at *
  have e2 := joinB_comm k 2
  rcases hc with ⟨h1, rfl⟩ | ⟨h1, h2, rfl⟩ | ⟨h1, h2, h3, rfl⟩ | ⟨h1, h2, h3, h4, rfl⟩ | ⟨h1, h2, h3, h4, rfl⟩
  all_goals
    go_enter Try.func16, Try.ntmps16
    go_wp2_with (first | (go_at_call 29; refine (kind_c _ _).mono ?_; rintro e w' ⟨rfl, rfl⟩) | (go_at_call 31; refine (rfits_c _ _ _).mono ?_; rintro e w' ⟨rfl, rfl⟩) | (go_at_call 27; refine (makes_c _ _ _).mono ?_; rintro e w' ⟨rfl, rfl⟩))
    go_ret2
    exact ⟨rfl, rfl⟩
def funcI (name : ByteArray) (n : Nat) (zs : List Int) : Int × Int :=
  if name.toList == [108, 101, 110, 103, 116, 104] then (if n = 1 then resI 2 (fitsL 3 zs) else (0, 11)) else if name.toList == [108, 111, 119, 101, 114] then (if n = 1 then resI 3 (fitsL 3 zs) else (0, 11)) else if name.toList == [117, 112, 112, 101, 114] then (if n = 1 then resI 3 (fitsL 3 zs) else (0, 11)) else if name.toList == [97, 98, 115] then (if n = 1 then resI 2 (fitsL 2 zs) else (0, 11)) else if name.toList == [99, 111, 97, 108, 101, 115, 99, 101] then (if 1 ≤ n then resI (joinAll zs).1 (joinAll zs).2 else (0, 11)) else if name.toList == [110, 117, 108, 108, 105, 102] then (if n = 2 then resI (joinAll zs).1 (joinAll zs).2 else (0, 11)) else (0, 6)
theorem func_cases (name : ByteArray) (n : Nat) (zs : List Int) : ((name.toList == [108, 101, 110, 103, 116, 104]) = true ∧ (name.toList == [108, 111, 119, 101, 114]) = false ∧ (name.toList == [117, 112, 112, 101, 114]) = false ∧ (name.toList == [97, 98, 115]) = false ∧ (name.toList == [99, 111, 97, 108, 101, 115, 99, 101]) = false ∧ (name.toList == [110, 117, 108, 108, 105, 102]) = false ∧ funcI name n zs = (if n = 1 then resI 2 (fitsL 3 zs) else (0, 11))) ∨
    ((name.toList == [108, 101, 110, 103, 116, 104]) = false ∧ (name.toList == [108, 111, 119, 101, 114]) = true ∧ (name.toList == [117, 112, 112, 101, 114]) = false ∧ (name.toList == [97, 98, 115]) = false ∧ (name.toList == [99, 111, 97, 108, 101, 115, 99, 101]) = false ∧ (name.toList == [110, 117, 108, 108, 105, 102]) = false ∧ funcI name n zs = (if n = 1 then resI 3 (fitsL 3 zs) else (0, 11))) ∨
    ((name.toList == [108, 101, 110, 103, 116, 104]) = false ∧ (name.toList == [108, 111, 119, 101, 114]) = false ∧ (name.toList == [117, 112, 112, 101, 114]) = true ∧ (name.toList == [97, 98, 115]) = false ∧ (name.toList == [99, 111, 97, 108, 101, 115, 99, 101]) = false ∧ (name.toList == [110, 117, 108, 108, 105, 102]) = false ∧ funcI name n zs = (if n = 1 then resI 3 (fitsL 3 zs) else (0, 11))) ∨
    ((name.toList == [108, 101, 110, 103, 116, 104]) = false ∧ (name.toList == [108, 111, 119, 101, 114]) = false ∧ (name.toList == [117, 112, 112, 101, 114]) = false ∧ (name.toList == [97, 98, 115]) = true ∧ (name.toList == [99, 111, 97, 108, 101, 115, 99, 101]) = false ∧ (name.toList == [110, 117, 108, 108, 105, 102]) = false ∧ funcI name n zs = (if n = 1 then resI 2 (fitsL 2 zs) else (0, 11))) ∨
    ((name.toList == [108, 101, 110, 103, 116, 104]) = false ∧ (name.toList == [108, 111, 119, 101, 114]) = false ∧ (name.toList == [117, 112, 112, 101, 114]) = false ∧ (name.toList == [97, 98, 115]) = false ∧ (name.toList == [99, 111, 97, 108, 101, 115, 99, 101]) = true ∧ (name.toList == [110, 117, 108, 108, 105, 102]) = false ∧ funcI name n zs = (if 1 ≤ n then resI (joinAll zs).1 (joinAll zs).2 else (0, 11))) ∨
    ((name.toList == [108, 101, 110, 103, 116, 104]) = false ∧ (name.toList == [108, 111, 119, 101, 114]) = false ∧ (name.toList == [117, 112, 112, 101, 114]) = false ∧ (name.toList == [97, 98, 115]) = false ∧ (name.toList == [99, 111, 97, 108, 101, 115, 99, 101]) = false ∧ (name.toList == [110, 117, 108, 108, 105, 102]) = true ∧ funcI name n zs = (if n = 2 then resI (joinAll zs).1 (joinAll zs).2 else (0, 11))) ∨
    ((name.toList == [108, 101, 110, 103, 116, 104]) = false ∧ (name.toList == [108, 111, 119, 101, 114]) = false ∧ (name.toList == [117, 112, 112, 101, 114]) = false ∧ (name.toList == [97, 98, 115]) = false ∧ (name.toList == [99, 111, 97, 108, 101, 115, 99, 101]) = false ∧ (name.toList == [110, 117, 108, 108, 105, 102]) = false ∧ funcI name n zs = (0, 6)) := by
  unfold funcI
  by_cases h0 : name.toList = [108, 101, 110, 103, 116, 104]
  · simp [h0]
  · by_cases h1 : name.toList = [108, 111, 119, 101, 114]
    · simp [h1]
    · by_cases h2 : name.toList = [117, 112, 112, 101, 114]
      · simp [h2]
      · by_cases h3 : name.toList = [97, 98, 115]
        · simp [h3]
        · by_cases h4 : name.toList = [99, 111, 97, 108, 101, 115, 99, 101]
          · simp [h4]
          · by_cases h5 : name.toList = [110, 117, 108, 108, 105, 102]
            · simp [h5]
            · simp [h0, h1, h2, h3, h4, h5]
set_option maxHeartbeats 4000000 in
theorem func_c (name : ByteArray) (A : Option Addr) (n c : Nat) (zs : List Int) (B : Nat) (w : World) (hz : Ints w B A n zs) (hm : n ≤ 1048576) :
    Calls Try.prog 13 #[.string name, .slice A n c] w fun e w' => e = .returned (.tuple #[.int .i64 (funcI name n zs).1, .int .i64 (funcI name n zs).2]) ∧ w = w' := by
  have hc := func_cases name n zs
  generalize funcI name n zs = p at *
  have HZ := hide hz
  clear hz
  rcases hc with ⟨h0, h1, h2, h3, h4, h5, HE⟩ | ⟨h0, h1, h2, h3, h4, h5, HE⟩ | ⟨h0, h1, h2, h3, h4, h5, HE⟩ | ⟨h0, h1, h2, h3, h4, h5, HE⟩ | ⟨h0, h1, h2, h3, h4, h5, HE⟩ | ⟨h0, h1, h2, h3, h4, h5, HE⟩ | ⟨h0, h1, h2, h3, h4, h5, HE⟩
  all_goals
    have HP := hide HE
    clear HE
    by_cases hn0 : n = 0
    · subst hn0
      go_enter Try.func13, Try.ntmps13
      go_wp2_with (first | (go_at_call 21; refine (fits_c _ _ _ _ _ _ _ HZ.out hm).mono ?_; rintro e w' ⟨rfl, rfl⟩) | (go_at_call 20; refine (result_c _ _ _).mono ?_; rintro e w' ⟨rfl, rfl⟩) | (go_at_call 32; refine (joined_c _ _ _ _ _ _ HZ.out hm).mono ?_; rintro e w' ⟨rfl, rfl⟩))
      go_ret2
      exact ⟨ret_p HP.out, rfl⟩
    · by_cases hn1 : n = 1
      · subst hn1
        go_enter Try.func13, Try.ntmps13
        go_wp2_with (first | (go_at_call 21; refine (fits_c _ _ _ _ _ _ _ HZ.out hm).mono ?_; rintro e w' ⟨rfl, rfl⟩) | (go_at_call 20; refine (result_c _ _ _).mono ?_; rintro e w' ⟨rfl, rfl⟩) | (go_at_call 32; refine (joined_c _ _ _ _ _ _ HZ.out hm).mono ?_; rintro e w' ⟨rfl, rfl⟩))
        go_ret2
        exact ⟨ret_p HP.out, rfl⟩
      · by_cases hn2 : n = 2
        · subst hn2
          go_enter Try.func13, Try.ntmps13
          go_wp2_with (first | (go_at_call 21; refine (fits_c _ _ _ _ _ _ _ HZ.out hm).mono ?_; rintro e w' ⟨rfl, rfl⟩) | (go_at_call 20; refine (result_c _ _ _).mono ?_; rintro e w' ⟨rfl, rfl⟩) | (go_at_call 32; refine (joined_c _ _ _ _ _ _ HZ.out hm).mono ?_; rintro e w' ⟨rfl, rfl⟩))
          go_ret2
          exact ⟨ret_p HP.out, rfl⟩
        · have hn3 : 3 ≤ n := by omega
          have HN := hide hn3
          have t1 : ((n : Int) != 1) = true := by simp; omega
          have t2 : ((n : Int) != 2) = true := by simp; omega
          have t3 : ¬ (n : Int) < 1 := by omega
          have t4 : (1 : Int) < (n : Int) := by omega
          have t5 : (2 : Int) < (n : Int) := by omega
          have t6 : ¬ (n : Int) < 2 := by omega
          clear hn0 hn1 hn2 hn3
          go_enter Try.func13, Try.ntmps13
          go_wp2_with (first | (go_at_call 21; refine (fits_c _ _ _ _ _ _ _ HZ.out hm).mono ?_; rintro e w' ⟨rfl, rfl⟩) | (go_at_call 20; refine (result_c _ _ _).mono ?_; rintro e w' ⟨rfl, rfl⟩) | (go_at_call 32; refine (joined_c _ _ _ _ _ _ HZ.out hm).mono ?_; rintro e w' ⟨rfl, rfl⟩))
          go_ret2
          first | exact ⟨ret_p HP.out, rfl⟩ | exact ⟨ret_p (by rw [HP.out, if_neg (by have := HN.out; omega)]), rfl⟩ | exact ⟨ret_p (by rw [HP.out, if_pos (by have := HN.out; omega)]), rfl⟩
set_option maxHeartbeats 4000000 in
theorem rfunc_c (name : ByteArray) (A : Option Addr) (n c : Nat) (zs : List Int) (B : Nat) (w : World) (hz : Ints w B A n zs) (hm : n ≤ 1048576) :
    Calls Try.prog 14 #[.string name, .slice A n c] w fun e w' => e = .returned (.tuple #[.int .i64 (funcI name n zs).1, .int .i64 (funcI name n zs).2]) ∧ w = w' := by
  have hc := func_cases name n zs
  generalize funcI name n zs = p at *
  have HZ := hide hz
  clear hz
  rcases hc with ⟨h0, h1, h2, h3, h4, h5, HE⟩ | ⟨h0, h1, h2, h3, h4, h5, HE⟩ | ⟨h0, h1, h2, h3, h4, h5, HE⟩ | ⟨h0, h1, h2, h3, h4, h5, HE⟩ | ⟨h0, h1, h2, h3, h4, h5, HE⟩ | ⟨h0, h1, h2, h3, h4, h5, HE⟩ | ⟨h0, h1, h2, h3, h4, h5, HE⟩
  all_goals
    have HP := hide HE
    clear HE
    by_cases hn0 : n = 0
    · subst hn0
      go_enter Try.func14, Try.ntmps14
      go_wp2_with (first | (go_at_call 28; refine (each_c _ _ _ _ _ _ _ HZ.out hm).mono ?_; rintro e w' ⟨rfl, rfl⟩) | (go_at_call 27; refine (makes_c _ _ _).mono ?_; rintro e w' ⟨rfl, rfl⟩) | (go_at_call 26; refine (rjoined_c _ _ _ _ _ _ HZ.out hm).mono ?_; rintro e w' ⟨rfl, rfl⟩))
      go_ret2
      exact ⟨ret_p HP.out, rfl⟩
    · by_cases hn1 : n = 1
      · subst hn1
        go_enter Try.func14, Try.ntmps14
        go_wp2_with (first | (go_at_call 28; refine (each_c _ _ _ _ _ _ _ HZ.out hm).mono ?_; rintro e w' ⟨rfl, rfl⟩) | (go_at_call 27; refine (makes_c _ _ _).mono ?_; rintro e w' ⟨rfl, rfl⟩) | (go_at_call 26; refine (rjoined_c _ _ _ _ _ _ HZ.out hm).mono ?_; rintro e w' ⟨rfl, rfl⟩))
        go_ret2
        exact ⟨ret_p HP.out, rfl⟩
      · by_cases hn2 : n = 2
        · subst hn2
          go_enter Try.func14, Try.ntmps14
          go_wp2_with (first | (go_at_call 28; refine (each_c _ _ _ _ _ _ _ HZ.out hm).mono ?_; rintro e w' ⟨rfl, rfl⟩) | (go_at_call 27; refine (makes_c _ _ _).mono ?_; rintro e w' ⟨rfl, rfl⟩) | (go_at_call 26; refine (rjoined_c _ _ _ _ _ _ HZ.out hm).mono ?_; rintro e w' ⟨rfl, rfl⟩))
          go_ret2
          exact ⟨ret_p HP.out, rfl⟩
        · have hn3 : 3 ≤ n := by omega
          have HN := hide hn3
          have t1 : ((n : Int) != 1) = true := by simp; omega
          have t2 : ((n : Int) != 2) = true := by simp; omega
          have t3 : ¬ (n : Int) < 1 := by omega
          have t4 : (1 : Int) < (n : Int) := by omega
          have t5 : (2 : Int) < (n : Int) := by omega
          have t6 : ¬ (n : Int) < 2 := by omega
          clear hn0 hn1 hn2 hn3
          go_enter Try.func14, Try.ntmps14
          go_wp2_with (first | (go_at_call 28; refine (each_c _ _ _ _ _ _ _ HZ.out hm).mono ?_; rintro e w' ⟨rfl, rfl⟩) | (go_at_call 27; refine (makes_c _ _ _).mono ?_; rintro e w' ⟨rfl, rfl⟩) | (go_at_call 26; refine (rjoined_c _ _ _ _ _ _ HZ.out hm).mono ?_; rintro e w' ⟨rfl, rfl⟩))
          go_ret2
          first | exact ⟨ret_p HP.out, rfl⟩ | exact ⟨ret_p (by rw [HP.out, if_neg (by have := HN.out; omega)]), rfl⟩ | exact ⟨ret_p (by rw [HP.out, if_pos (by have := HN.out; omega)]), rfl⟩
end Go.Proofs.Ytiaolpeenbmidaa

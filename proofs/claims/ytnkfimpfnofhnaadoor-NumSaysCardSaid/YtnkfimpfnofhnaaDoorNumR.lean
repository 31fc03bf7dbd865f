/- The walk of NumRings. -/
import Derived.Test.YtnkfimpfnofhnaaDoorNumL
namespace Go.Proofs.YtnkfimpfnofhnaaDoor
set_option linter.unusedVariables false
open Go.ChangeShapes Go.WideShapes Go.ChangeAt Go.RowKit

theorem addP_comm (a b : Int) : addP a b = addP b a := by unfold addP both; rw [Bool.and_comm, Int.add_comm]
theorem mulP_comm (a b : Int) : mulP a b = mulP b a := by unfold mulP both; rw [Bool.and_comm, Int.mul_comm]
theorem bdP_true {n : Int} (h : (bdP n).2 = true) : bdP n = (n, true) ∧ inN n = true := by
  cases e : inN n
  · rw [bdP_out e] at h; cases h
  · exact ⟨bdP_in e, rfl⟩
theorem addP_true {a b : Int} (h : (addP a b).2 = true) : (addP a b).1 = a + b ∧ inN a = true ∧ inN b = true ∧ inN (a + b) = true := by
  unfold addP at *
  cases e : both a b
  · rw [e] at h; cases h
  · rw [e] at h
    have := bdP_true h
    simp only [if_true] at h ⊢
    exact ⟨by rw [this.1], ((both_iff a b).1 e).1, ((both_iff a b).1 e).2, this.2⟩
theorem mulP_true {a b : Int} (h : (mulP a b).2 = true) : (mulP a b).1 = a * b := by
  unfold mulP at *
  cases e : both a b
  · rw [e] at h; cases h
  · rw [e] at h
    have := bdP_true h
    simp only [if_true] at h ⊢
    rw [this.1]
theorem sub_back {a b : Int} (h : (addP a b).2 = true) : subP (addP a b).1 b = (a, true) := by
  obtain ⟨h1, ha, hb, hab⟩ := addP_true h
  rw [h1]
  unfold subP
  rw [(both_iff _ _).2 ⟨hab, hb⟩, show a + b - b = a by omega]
  exact bdP_in ha
theorem spread {a b c : Int} (i : (addP a b).2 = true) (m : (mulP a c).2 = true) (n : (mulP b c).2 = true) (o : (mulP (addP a b).1 c).2 = true) (v : (addP (mulP a c).1 (mulP b c).1).2 = true) :
    (mulP (addP a b).1 c).1 = (addP (mulP a c).1 (mulP b c).1).1 := by
  rw [mulP_true o, (addP_true v).1, mulP_true m, mulP_true n, (addP_true i).1, Int.add_mul]
theorem brackets {a b c : Int} (k : (mulP a b).2 = true) (n : (mulP b c).2 = true) (d : (mulP (mulP a b).1 c).2 = true) (e : (mulP a (mulP b c).1).2 = true) :
    (mulP (mulP a b).1 c).1 = (mulP a (mulP b c).1).1 := by
  rw [mulP_true d, mulP_true e, mulP_true k, mulP_true n, Int.mul_assoc]
set_option maxRecDepth 100000 in
set_option maxHeartbeats 2000000 in
theorem rings_w (a b c : Int) (w : World) (hW : NumW w) : Calls Tryd.prog 5 #[.int .i64 a, .int .i64 b, .int .i64 c] w fun e w' => e = .returned (.bool true) ∧ Below w.heap.size w w' := by
  have HW := hide hW
  clear hW
  have t1 : ∀ b : Bool, (b == b) = true := fun b => by cases b <;> rfl
  have t2 : ∀ x : Int, decide (x = x) = true := fun x => by simp
  have hb := @sub_back a b
  have hs := @spread a b c
  have hk := @brackets a b c
  have q1 := fun W => add_c a b W
  have q2 := fun W => add_c b a W
  have q3 := fun W => mul_c a b W
  have q4 := fun W => mul_c b a W
  have q5 := fun W => sub_c (addP a b).1 b W
  have q6 := fun W => mul_c a c W
  have q7 := fun W => mul_c b c W
  have q8 := fun W => mul_c (addP a b).1 c W
  have q9 := fun W => add_c (mulP a c).1 (mulP b c).1 W
  have q10 := fun W => mul_c (mulP a b).1 c W
  have q11 := fun W => mul_c a (mulP b c).1 W
  rw [addP_comm b a] at q2
  rw [mulP_comm b a] at q4
  generalize mulP a (mulP b c).1 = P11 at *
  generalize mulP (mulP a b).1 c = P10 at *
  generalize addP (mulP a c).1 (mulP b c).1 = P9 at *
  generalize mulP (addP a b).1 c = P8 at *
  generalize mulP b c = P7 at *
  generalize mulP a c = P6 at *
  generalize subP (addP a b).1 b = P5 at *
  generalize mulP a b = P3 at *
  generalize addP a b = P1 at *
  obtain ⟨x, i⟩ := P1
  obtain ⟨p, k⟩ := P3
  obtain ⟨bk, ok⟩ := P5
  obtain ⟨r, m⟩ := P6
  obtain ⟨s, n⟩ := P7
  obtain ⟨t, o⟩ := P8
  obtain ⟨u, v⟩ := P9
  obtain ⟨f, d⟩ := P10
  obtain ⟨g, e⟩ := P11
  simp only at hb hs hk q1 q2 q3 q4 q5 q6 q7 q8 q9 q10 q11
  have Q1 := hide q1
  have Q2 := hide q2
  have Q3 := hide q3
  have Q4 := hide q4
  have Q5 := hide q5
  have Q6 := hide q6
  have Q7 := hide q7
  have Q8 := hide q8
  have Q9 := hide q9
  have Q10 := hide q10
  have Q11 := hide q11
  clear q1 q2 q3 q4 q5 q6 q7 q8 q9 q10 q11
  have HS := hide hs
  have HK := hide hk
  clear hs hk
  have hi : i = false ∨ (i = true ∧ ok = true ∧ bk = a) := by
    cases i
    · left; rfl
    · right; have := hb rfl; simp only [Prod.mk.injEq] at this; exact ⟨rfl, this.2, this.1⟩
  clear hb
  have t3 : ∀ x : Int, (x != x) = false := fun x => by simp
  have hd1 : (i && m && n && o && v && (t != u)) = false := by
    cases i <;> cases m <;> cases n <;> cases o <;> cases v <;> simp
    exact HS.out rfl rfl rfl rfl rfl
  have hd2 : (!k || !n || !d || !e || (f == g)) = true := by
    cases k <;> cases n <;> cases d <;> cases e <;> simp
    exact HK.out rfl rfl rfl rfl
  have HD1 := hide hd1
  have HD2 := hide hd2
  clear hd1 hd2
  rcases hi with rfl | ⟨rfl, rfl, rfl⟩
  all_goals
    go_enter Tryd.func5, Tryd.ntmps5
    go_wp2_with fail
    refine (Q1.out _).mono ?_
    rintro e w' ⟨rfl, rfl⟩
    go_wp2_with fail
    refine (Q2.out _).mono ?_
    rintro e w' ⟨rfl, rfl⟩
    go_wp2_with fail
    refine (awake_c _ HW.out).mono ?_
    rintro e w1 ⟨rfl, hb⟩
    go_wp2_with fail
    refine (same_c _ _ _ _ _).mono ?_
    rintro e w' ⟨rfl, rfl⟩
    go_wp2_with fail
    refine (Q3.out _).mono ?_
    rintro e w' ⟨rfl, rfl⟩
    go_wp2_with fail
    refine (Q4.out _).mono ?_
    rintro e w' ⟨rfl, rfl⟩
    go_wp2_with fail
    refine (same_c _ _ _ _ _).mono ?_
    rintro e w' ⟨rfl, rfl⟩
    go_wp2_with fail
    refine (Q5.out _).mono ?_
    rintro e w' ⟨rfl, rfl⟩
    go_wp2_with fail
    refine (Q6.out _).mono ?_
    rintro e w' ⟨rfl, rfl⟩
    go_wp2_with fail
    refine (Q7.out _).mono ?_
    rintro e w' ⟨rfl, rfl⟩
    go_wp2_with fail
    refine (Q8.out _).mono ?_
    rintro e w' ⟨rfl, rfl⟩
    go_wp2_with fail
    refine (Q9.out _).mono ?_
    rintro e w' ⟨rfl, rfl⟩
    go_wp2_with fail
    all_goals first
      | refine (Q10.out _).mono ?_
      | (exfalso
         have h1 := HD1.out
         simp_all; done)
    all_goals
      rintro e w' ⟨rfl, rfl⟩
      go_wp2_with fail
      refine (Q11.out _).mono ?_
      rintro e w' ⟨rfl, rfl⟩
      have hd2 := HD2.out
      clear Q1 Q2 Q3 Q4 Q5 Q6 Q7 Q8 Q9 Q10 Q11 HK HS HD1 HD2
      go_wp2_with fail
      all_goals
        go_ret
        refine ⟨ret_bool ?_, hb⟩
        first | rfl | (simp_all; done)
end Go.Proofs.YtnkfimpfnofhnaaDoor

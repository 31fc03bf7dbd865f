/- The walk of OctetTexts. -/
import Derived.Test.YtlfgfjljddjncaaDoorTextM
namespace Go.Proofs.YtlfgfjljddjncaaDoor
set_option linter.unusedVariables false
open Go.ChangeShapes Go.WideShapes Go.ChangeAt Go.RowKit

set_option maxRecDepth 100000 in
set_option maxHeartbeats 2000000 in
theorem texts_w (s m : ByteArray) (a : Int) (hs : s.size ≤ 1048576) (hm : m.size ≤ 1048576) (ha : -9223372036854775808 ≤ a) (w : World) (hT : TabW w) :
    Calls Tryd.prog 5 #[.string s, .int .i64 a, .string m] w fun e w' => e = .returned (.bool true) ∧ Below w.heap.size w w' := by
  have HT := hide hT
  clear hT
  have t1 : ∀ b : Bool, (b == b) = true := fun b => by cases b <;> rfl
  have t2 : ∀ x : Int, decide (x = x) = true := fun x => by simp
  have t3 : ∀ x : Int, (x == x) = true := fun x => by simp
  have hz := big_size s m
  have hc := cutS_size s
  have q1 := fun W => getText_c s a (by omega) W
  have q2 := fun W => rgetText_c s a (by omega) ha W
  have q3 := fun W => putT_c s W
  have q4 := fun W => rputT_c s W
  have q5 := fun W => getText_c (bigP s m) m.size (by omega) W
  rw [big_text] at q5
  have hb : bigP s m = m ++ ptP s ++ m := rfl
  have hp : ((ptP s).size : Int) ≤ 70000 := by
    have h1 := congrArg List.length (show (ptP s).data.toList = (putL (cutS s).size 2).map byteOf ++ (cutS s).data.toList by unfold ptP; simp only [ByteArray.data_append, Array.toList_append, strOf_list])
    simp only [List.length_append, List.length_map, putL_len, str_len] at h1
    omega
  have hmp : ((m ++ ptP s).size : Int) ≤ 8388608 := by rw [ByteArray.size_append]; omega
  generalize gtP s a = p at *
  obtain ⟨x, k, ok⟩ := p
  generalize bigP s m = big at *
  generalize ptP s = ps at *
  rw [hb] at q5
  clear hb hz
  have hmI : (m.size : Int) ≤ 1048576 := by omega
  have hsI : (s.size : Int) ≤ 1048576 := by omega
  by_cases h : s.size ≤ 65535
  · rw [show cutS s = s from if_pos h] at q5 hc
    have h1 : (s.size : Int) ≤ 65535 := by omega
    have Q1 := hide q1
    have Q2 := hide q2
    have Q3 := hide q3
    have Q4 := hide q4
    have Q5 := hide q5
    clear q1 q2 q3 q4 q5
    go_enter Tryd.func5, Tryd.ntmps5
    go_wp2_with fail
    refine (Q1.out _).mono ?_
    rintro e w' ⟨rfl, rfl⟩
    go_wp2_with fail
    refine (Q2.out _).mono ?_
    rintro e w' ⟨rfl, rfl⟩
    go_wp2_with fail
    refine (awake_c _ HT.out).mono ?_
    rintro e w1 ⟨rfl, hb1⟩
    go_wp2_with fail
    refine (Q3.out _).mono ?_
    rintro e w2 ⟨rfl, hb2⟩
    go_wp2_with fail
    refine (Q4.out _).mono ?_
    rintro e w3 ⟨rfl, hb3⟩
    go_wp2_with fail
    refine (Q3.out _).mono ?_
    rintro e w4 ⟨rfl, hb4⟩
    go_wp2_with fail
    refine (Q5.out _).mono ?_
    rintro e w' ⟨rfl, rfl⟩
    go_wp2_with fail
    go_ret
    exact ⟨rfl, Bel.then (Bel.then (Bel.then hb1 hb2) hb3) hb4⟩
  · have hcs : s.extract 0 65535 = cutS s := (if_neg h).symm
    generalize cutS s = c at *
    have h1 : (65535 : Int) < s.size := by omega
    have Q1 := hide q1
    have Q2 := hide q2
    have Q3 := hide q3
    have Q4 := hide q4
    have Q5 := hide q5
    clear q1 q2 q3 q4 q5
    go_enter Tryd.func5, Tryd.ntmps5
    go_wp2_with fail
    refine (Q1.out _).mono ?_
    rintro e w' ⟨rfl, rfl⟩
    go_wp2_with fail
    refine (Q2.out _).mono ?_
    rintro e w' ⟨rfl, rfl⟩
    go_wp2_with fail
    refine (awake_c _ HT.out).mono ?_
    rintro e w1 ⟨rfl, hb1⟩
    go_wp2_with fail
    refine (Q3.out _).mono ?_
    rintro e w2 ⟨rfl, hb2⟩
    go_wp2_with fail
    refine (Q4.out _).mono ?_
    rintro e w3 ⟨rfl, hb3⟩
    go_wp2_with fail
    refine (Q3.out _).mono ?_
    rintro e w4 ⟨rfl, hb4⟩
    go_wp2_with fail
    refine (Q5.out _).mono ?_
    rintro e w' ⟨rfl, rfl⟩
    go_wp2_with fail
    go_ret
    exact ⟨rfl, Bel.then (Bel.then (Bel.then hb1 hb2) hb3) hb4⟩
end Go.Proofs.YtlfgfjljddjncaaDoor

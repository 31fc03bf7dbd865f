/- The walk of OctetPuts. -/
import Derived.Test.YtlfgfjljddjncaaDoorPutM
import Derived.Test.YtlfgfjljddjncaaDoorOctL
namespace Go.Proofs.YtlfgfjljddjncaaDoor
set_option linter.unusedVariables false
open Go.ChangeShapes Go.WideShapes Go.ChangeAt Go.RowKit

theorem putP_size (n z : Int) : (putP n z).size ≤ 9223372036854775807 := by
  unfold putP
  split
  · rw [strOf_size, putL_len]; omega
  · show (0 : Nat) ≤ _; omega
set_option maxRecDepth 100000 in
set_option maxHeartbeats 1000000 in
theorem puts1 (n : Int) (h0 : -9223372036854775808 ≤ n) (h1 : n ≤ 9223372036854775807) (w : World) (hT : TabW w) :
    Calls Tryd.prog 3 #[.int .i64 n, .int .i64 1] w fun e w' => e = .returned (.bool true) ∧ Below w.heap.size w w' := by
  have HT := hide hT
  clear hT
  have t2 : ∀ x : Int, decide (x = x) = true := fun x => by simp
  have t3 : ∀ x : Int, (x == x) = true := fun x => by simp
  have q1 := fun W => put_c n 1 W
  have q2 := fun W => rput_c n 1 W
  have q3 := fun W => get_c (putP n 1) 0 1 (putP_size n 1) W
  have q4 := fun W => put_c (backN n 1) 1 W
  rw [show getP (putP n 1) 0 1 = (backN n 1, true) from get_put n 1 (by omega) (by omega)] at q3
  rw [show putP (backN n 1) 1 = putP n 1 from put_again n 1 (by omega) h0 h1] at q4
  generalize putP n 1 = s at *
  rcases (show n < 0 ∨ (0 ≤ n ∧ n < 256) ∨ (0 ≤ n ∧ 256 ≤ n) by omega) with h | ⟨h, h2⟩ | ⟨h, h2⟩
  · generalize backN n 1 = x at *
    have Q1 := hide q1
    have Q2 := hide q2
    have Q3 := hide q3
    have Q4 := hide q4
    clear q1 q2 q3 q4
    go_enter Tryd.func3, Tryd.ntmps3
    go_wp2_with fail
    refine (Q1.out _).mono ?_
    rintro e w1 ⟨rfl, hb1⟩
    have HT1 := hide (HT.out.keep hb1)
    go_wp2_with fail
    refine (awake_c _ HT1.out).mono ?_
    rintro e w2 ⟨rfl, hb2⟩
    go_wp2_with fail
    refine (Q2.out _).mono ?_
    rintro e w3 ⟨rfl, hb3⟩
    go_wp2_with fail
    refine (Q3.out _).mono ?_
    rintro e w' ⟨rfl, rfl⟩
    go_wp2_with fail
    refine (Q4.out _).mono ?_
    rintro e w4 ⟨rfl, hb4⟩
    go_wp2_with fail
    go_ret
    exact ⟨rfl, Bel.then (Bel.then (Bel.then hb1 hb2) hb3) hb4⟩
  · rw [back_same n 1 (by omega) h (by omega)] at q3 q4
    have Q1 := hide q1
    have Q2 := hide q2
    have Q3 := hide q3
    have Q4 := hide q4
    clear q1 q2 q3 q4
    go_enter Tryd.func3, Tryd.ntmps3
    go_wp2_with fail
    refine (Q1.out _).mono ?_
    rintro e w1 ⟨rfl, hb1⟩
    have HT1 := hide (HT.out.keep hb1)
    go_wp2_with fail
    refine (awake_c _ HT1.out).mono ?_
    rintro e w2 ⟨rfl, hb2⟩
    go_wp2_with fail
    refine (Q2.out _).mono ?_
    rintro e w3 ⟨rfl, hb3⟩
    go_wp2_with fail
    refine (Q3.out _).mono ?_
    rintro e w' ⟨rfl, rfl⟩
    go_wp2_with fail
    refine (Q4.out _).mono ?_
    rintro e w4 ⟨rfl, hb4⟩
    go_wp2_with fail
    go_ret
    exact ⟨rfl, Bel.then (Bel.then (Bel.then hb1 hb2) hb3) hb4⟩
  · generalize backN n 1 = x at *
    have Q1 := hide q1
    have Q2 := hide q2
    have Q3 := hide q3
    have Q4 := hide q4
    clear q1 q2 q3 q4
    go_enter Tryd.func3, Tryd.ntmps3
    go_wp2_with fail
    refine (Q1.out _).mono ?_
    rintro e w1 ⟨rfl, hb1⟩
    have HT1 := hide (HT.out.keep hb1)
    go_wp2_with fail
    refine (awake_c _ HT1.out).mono ?_
    rintro e w2 ⟨rfl, hb2⟩
    go_wp2_with fail
    refine (Q2.out _).mono ?_
    rintro e w3 ⟨rfl, hb3⟩
    go_wp2_with fail
    refine (Q3.out _).mono ?_
    rintro e w' ⟨rfl, rfl⟩
    go_wp2_with fail
    refine (Q4.out _).mono ?_
    rintro e w4 ⟨rfl, hb4⟩
    go_wp2_with fail
    go_ret
    exact ⟨rfl, Bel.then (Bel.then (Bel.then hb1 hb2) hb3) hb4⟩
set_option maxRecDepth 100000 in
set_option maxHeartbeats 1000000 in
theorem puts2 (n : Int) (h0 : -9223372036854775808 ≤ n) (h1 : n ≤ 9223372036854775807) (w : World) (hT : TabW w) :
    Calls Tryd.prog 3 #[.int .i64 n, .int .i64 2] w fun e w' => e = .returned (.bool true) ∧ Below w.heap.size w w' := by
  have HT := hide hT
  clear hT
  have t2 : ∀ x : Int, decide (x = x) = true := fun x => by simp
  have t3 : ∀ x : Int, (x == x) = true := fun x => by simp
  have q1 := fun W => put_c n 2 W
  have q2 := fun W => rput_c n 2 W
  have q3 := fun W => get_c (putP n 2) 0 2 (putP_size n 2) W
  have q4 := fun W => put_c (backN n 2) 2 W
  rw [show getP (putP n 2) 0 2 = (backN n 2, true) from get_put n 2 (by omega) (by omega)] at q3
  rw [show putP (backN n 2) 2 = putP n 2 from put_again n 2 (by omega) h0 h1] at q4
  generalize putP n 2 = s at *
  rcases (show n < 0 ∨ (0 ≤ n ∧ n < 65536) ∨ (0 ≤ n ∧ 65536 ≤ n) by omega) with h | ⟨h, h2⟩ | ⟨h, h2⟩
  · generalize backN n 2 = x at *
    have Q1 := hide q1
    have Q2 := hide q2
    have Q3 := hide q3
    have Q4 := hide q4
    clear q1 q2 q3 q4
    go_enter Tryd.func3, Tryd.ntmps3
    go_wp2_with fail
    refine (Q1.out _).mono ?_
    rintro e w1 ⟨rfl, hb1⟩
    have HT1 := hide (HT.out.keep hb1)
    go_wp2_with fail
    refine (awake_c _ HT1.out).mono ?_
    rintro e w2 ⟨rfl, hb2⟩
    go_wp2_with fail
    refine (Q2.out _).mono ?_
    rintro e w3 ⟨rfl, hb3⟩
    go_wp2_with fail
    refine (Q3.out _).mono ?_
    rintro e w' ⟨rfl, rfl⟩
    go_wp2_with fail
    refine (Q4.out _).mono ?_
    rintro e w4 ⟨rfl, hb4⟩
    go_wp2_with fail
    go_ret
    exact ⟨rfl, Bel.then (Bel.then (Bel.then hb1 hb2) hb3) hb4⟩
  · rw [back_same n 2 (by omega) h (by omega)] at q3 q4
    have Q1 := hide q1
    have Q2 := hide q2
    have Q3 := hide q3
    have Q4 := hide q4
    clear q1 q2 q3 q4
    go_enter Tryd.func3, Tryd.ntmps3
    go_wp2_with fail
    refine (Q1.out _).mono ?_
    rintro e w1 ⟨rfl, hb1⟩
    have HT1 := hide (HT.out.keep hb1)
    go_wp2_with fail
    refine (awake_c _ HT1.out).mono ?_
    rintro e w2 ⟨rfl, hb2⟩
    go_wp2_with fail
    refine (Q2.out _).mono ?_
    rintro e w3 ⟨rfl, hb3⟩
    go_wp2_with fail
    refine (Q3.out _).mono ?_
    rintro e w' ⟨rfl, rfl⟩
    go_wp2_with fail
    refine (Q4.out _).mono ?_
    rintro e w4 ⟨rfl, hb4⟩
    go_wp2_with fail
    go_ret
    exact ⟨rfl, Bel.then (Bel.then (Bel.then hb1 hb2) hb3) hb4⟩
  · generalize backN n 2 = x at *
    have Q1 := hide q1
    have Q2 := hide q2
    have Q3 := hide q3
    have Q4 := hide q4
    clear q1 q2 q3 q4
    go_enter Tryd.func3, Tryd.ntmps3
    go_wp2_with fail
    refine (Q1.out _).mono ?_
    rintro e w1 ⟨rfl, hb1⟩
    have HT1 := hide (HT.out.keep hb1)
    go_wp2_with fail
    refine (awake_c _ HT1.out).mono ?_
    rintro e w2 ⟨rfl, hb2⟩
    go_wp2_with fail
    refine (Q2.out _).mono ?_
    rintro e w3 ⟨rfl, hb3⟩
    go_wp2_with fail
    refine (Q3.out _).mono ?_
    rintro e w' ⟨rfl, rfl⟩
    go_wp2_with fail
    refine (Q4.out _).mono ?_
    rintro e w4 ⟨rfl, hb4⟩
    go_wp2_with fail
    go_ret
    exact ⟨rfl, Bel.then (Bel.then (Bel.then hb1 hb2) hb3) hb4⟩
set_option maxRecDepth 100000 in
set_option maxHeartbeats 1000000 in
theorem puts3 (n : Int) (h0 : -9223372036854775808 ≤ n) (h1 : n ≤ 9223372036854775807) (w : World) (hT : TabW w) :
    Calls Tryd.prog 3 #[.int .i64 n, .int .i64 3] w fun e w' => e = .returned (.bool true) ∧ Below w.heap.size w w' := by
  have HT := hide hT
  clear hT
  have t2 : ∀ x : Int, decide (x = x) = true := fun x => by simp
  have t3 : ∀ x : Int, (x == x) = true := fun x => by simp
  have q1 := fun W => put_c n 3 W
  have q2 := fun W => rput_c n 3 W
  have q3 := fun W => get_c (putP n 3) 0 3 (putP_size n 3) W
  have q4 := fun W => put_c (backN n 3) 3 W
  rw [show getP (putP n 3) 0 3 = (backN n 3, true) from get_put n 3 (by omega) (by omega)] at q3
  rw [show putP (backN n 3) 3 = putP n 3 from put_again n 3 (by omega) h0 h1] at q4
  generalize putP n 3 = s at *
  rcases (show n < 0 ∨ (0 ≤ n ∧ n < 16777216) ∨ (0 ≤ n ∧ 16777216 ≤ n) by omega) with h | ⟨h, h2⟩ | ⟨h, h2⟩
  · generalize backN n 3 = x at *
    have Q1 := hide q1
    have Q2 := hide q2
    have Q3 := hide q3
    have Q4 := hide q4
    clear q1 q2 q3 q4
    go_enter Tryd.func3, Tryd.ntmps3
    go_wp2_with fail
    refine (Q1.out _).mono ?_
    rintro e w1 ⟨rfl, hb1⟩
    have HT1 := hide (HT.out.keep hb1)
    go_wp2_with fail
    refine (awake_c _ HT1.out).mono ?_
    rintro e w2 ⟨rfl, hb2⟩
    go_wp2_with fail
    refine (Q2.out _).mono ?_
    rintro e w3 ⟨rfl, hb3⟩
    go_wp2_with fail
    refine (Q3.out _).mono ?_
    rintro e w' ⟨rfl, rfl⟩
    go_wp2_with fail
    refine (Q4.out _).mono ?_
    rintro e w4 ⟨rfl, hb4⟩
    go_wp2_with fail
    go_ret
    exact ⟨rfl, Bel.then (Bel.then (Bel.then hb1 hb2) hb3) hb4⟩
  · rw [back_same n 3 (by omega) h (by omega)] at q3 q4
    have Q1 := hide q1
    have Q2 := hide q2
    have Q3 := hide q3
    have Q4 := hide q4
    clear q1 q2 q3 q4
    go_enter Tryd.func3, Tryd.ntmps3
    go_wp2_with fail
    refine (Q1.out _).mono ?_
    rintro e w1 ⟨rfl, hb1⟩
    have HT1 := hide (HT.out.keep hb1)
    go_wp2_with fail
    refine (awake_c _ HT1.out).mono ?_
    rintro e w2 ⟨rfl, hb2⟩
    go_wp2_with fail
    refine (Q2.out _).mono ?_
    rintro e w3 ⟨rfl, hb3⟩
    go_wp2_with fail
    refine (Q3.out _).mono ?_
    rintro e w' ⟨rfl, rfl⟩
    go_wp2_with fail
    refine (Q4.out _).mono ?_
    rintro e w4 ⟨rfl, hb4⟩
    go_wp2_with fail
    go_ret
    exact ⟨rfl, Bel.then (Bel.then (Bel.then hb1 hb2) hb3) hb4⟩
  · generalize backN n 3 = x at *
    have Q1 := hide q1
    have Q2 := hide q2
    have Q3 := hide q3
    have Q4 := hide q4
    clear q1 q2 q3 q4
    go_enter Tryd.func3, Tryd.ntmps3
    go_wp2_with fail
    refine (Q1.out _).mono ?_
    rintro e w1 ⟨rfl, hb1⟩
    have HT1 := hide (HT.out.keep hb1)
    go_wp2_with fail
    refine (awake_c _ HT1.out).mono ?_
    rintro e w2 ⟨rfl, hb2⟩
    go_wp2_with fail
    refine (Q2.out _).mono ?_
    rintro e w3 ⟨rfl, hb3⟩
    go_wp2_with fail
    refine (Q3.out _).mono ?_
    rintro e w' ⟨rfl, rfl⟩
    go_wp2_with fail
    refine (Q4.out _).mono ?_
    rintro e w4 ⟨rfl, hb4⟩
    go_wp2_with fail
    go_ret
    exact ⟨rfl, Bel.then (Bel.then (Bel.then hb1 hb2) hb3) hb4⟩
set_option maxRecDepth 100000 in
set_option maxHeartbeats 1000000 in
theorem puts4 (n : Int) (h0 : -9223372036854775808 ≤ n) (h1 : n ≤ 9223372036854775807) (w : World) (hT : TabW w) :
    Calls Tryd.prog 3 #[.int .i64 n, .int .i64 4] w fun e w' => e = .returned (.bool true) ∧ Below w.heap.size w w' := by
  have HT := hide hT
  clear hT
  have t2 : ∀ x : Int, decide (x = x) = true := fun x => by simp
  have t3 : ∀ x : Int, (x == x) = true := fun x => by simp
  have q1 := fun W => put_c n 4 W
  have q2 := fun W => rput_c n 4 W
  have q3 := fun W => get_c (putP n 4) 0 4 (putP_size n 4) W
  have q4 := fun W => put_c (backN n 4) 4 W
  rw [show getP (putP n 4) 0 4 = (backN n 4, true) from get_put n 4 (by omega) (by omega)] at q3
  rw [show putP (backN n 4) 4 = putP n 4 from put_again n 4 (by omega) h0 h1] at q4
  generalize putP n 4 = s at *
  rcases (show n < 0 ∨ (0 ≤ n ∧ n < 4294967296) ∨ (0 ≤ n ∧ 4294967296 ≤ n) by omega) with h | ⟨h, h2⟩ | ⟨h, h2⟩
  · generalize backN n 4 = x at *
    have Q1 := hide q1
    have Q2 := hide q2
    have Q3 := hide q3
    have Q4 := hide q4
    clear q1 q2 q3 q4
    go_enter Tryd.func3, Tryd.ntmps3
    go_wp2_with fail
    refine (Q1.out _).mono ?_
    rintro e w1 ⟨rfl, hb1⟩
    have HT1 := hide (HT.out.keep hb1)
    go_wp2_with fail
    refine (awake_c _ HT1.out).mono ?_
    rintro e w2 ⟨rfl, hb2⟩
    go_wp2_with fail
    refine (Q2.out _).mono ?_
    rintro e w3 ⟨rfl, hb3⟩
    go_wp2_with fail
    refine (Q3.out _).mono ?_
    rintro e w' ⟨rfl, rfl⟩
    go_wp2_with fail
    refine (Q4.out _).mono ?_
    rintro e w4 ⟨rfl, hb4⟩
    go_wp2_with fail
    go_ret
    exact ⟨rfl, Bel.then (Bel.then (Bel.then hb1 hb2) hb3) hb4⟩
  · rw [back_same n 4 (by omega) h (by omega)] at q3 q4
    have Q1 := hide q1
    have Q2 := hide q2
    have Q3 := hide q3
    have Q4 := hide q4
    clear q1 q2 q3 q4
    go_enter Tryd.func3, Tryd.ntmps3
    go_wp2_with fail
    refine (Q1.out _).mono ?_
    rintro e w1 ⟨rfl, hb1⟩
    have HT1 := hide (HT.out.keep hb1)
    go_wp2_with fail
    refine (awake_c _ HT1.out).mono ?_
    rintro e w2 ⟨rfl, hb2⟩
    go_wp2_with fail
    refine (Q2.out _).mono ?_
    rintro e w3 ⟨rfl, hb3⟩
    go_wp2_with fail
    refine (Q3.out _).mono ?_
    rintro e w' ⟨rfl, rfl⟩
    go_wp2_with fail
    refine (Q4.out _).mono ?_
    rintro e w4 ⟨rfl, hb4⟩
    go_wp2_with fail
    go_ret
    exact ⟨rfl, Bel.then (Bel.then (Bel.then hb1 hb2) hb3) hb4⟩
  · generalize backN n 4 = x at *
    have Q1 := hide q1
    have Q2 := hide q2
    have Q3 := hide q3
    have Q4 := hide q4
    clear q1 q2 q3 q4
    go_enter Tryd.func3, Tryd.ntmps3
    go_wp2_with fail
    refine (Q1.out _).mono ?_
    rintro e w1 ⟨rfl, hb1⟩
    have HT1 := hide (HT.out.keep hb1)
    go_wp2_with fail
    refine (awake_c _ HT1.out).mono ?_
    rintro e w2 ⟨rfl, hb2⟩
    go_wp2_with fail
    refine (Q2.out _).mono ?_
    rintro e w3 ⟨rfl, hb3⟩
    go_wp2_with fail
    refine (Q3.out _).mono ?_
    rintro e w' ⟨rfl, rfl⟩
    go_wp2_with fail
    refine (Q4.out _).mono ?_
    rintro e w4 ⟨rfl, hb4⟩
    go_wp2_with fail
    go_ret
    exact ⟨rfl, Bel.then (Bel.then (Bel.then hb1 hb2) hb3) hb4⟩
set_option maxRecDepth 100000 in
set_option maxHeartbeats 1000000 in
theorem puts5 (n : Int) (h0 : -9223372036854775808 ≤ n) (h1 : n ≤ 9223372036854775807) (w : World) (hT : TabW w) :
    Calls Tryd.prog 3 #[.int .i64 n, .int .i64 5] w fun e w' => e = .returned (.bool true) ∧ Below w.heap.size w w' := by
  have HT := hide hT
  clear hT
  have t2 : ∀ x : Int, decide (x = x) = true := fun x => by simp
  have t3 : ∀ x : Int, (x == x) = true := fun x => by simp
  have q1 := fun W => put_c n 5 W
  have q2 := fun W => rput_c n 5 W
  have q3 := fun W => get_c (putP n 5) 0 5 (putP_size n 5) W
  have q4 := fun W => put_c (backN n 5) 5 W
  rw [show getP (putP n 5) 0 5 = (backN n 5, true) from get_put n 5 (by omega) (by omega)] at q3
  rw [show putP (backN n 5) 5 = putP n 5 from put_again n 5 (by omega) h0 h1] at q4
  generalize putP n 5 = s at *
  rcases (show n < 0 ∨ (0 ≤ n ∧ n < 1099511627776) ∨ (0 ≤ n ∧ 1099511627776 ≤ n) by omega) with h | ⟨h, h2⟩ | ⟨h, h2⟩
  · generalize backN n 5 = x at *
    have Q1 := hide q1
    have Q2 := hide q2
    have Q3 := hide q3
    have Q4 := hide q4
    clear q1 q2 q3 q4
    go_enter Tryd.func3, Tryd.ntmps3
    go_wp2_with fail
    refine (Q1.out _).mono ?_
    rintro e w1 ⟨rfl, hb1⟩
    have HT1 := hide (HT.out.keep hb1)
    go_wp2_with fail
    refine (awake_c _ HT1.out).mono ?_
    rintro e w2 ⟨rfl, hb2⟩
    go_wp2_with fail
    refine (Q2.out _).mono ?_
    rintro e w3 ⟨rfl, hb3⟩
    go_wp2_with fail
    refine (Q3.out _).mono ?_
    rintro e w' ⟨rfl, rfl⟩
    go_wp2_with fail
    refine (Q4.out _).mono ?_
    rintro e w4 ⟨rfl, hb4⟩
    go_wp2_with fail
    go_ret
    exact ⟨rfl, Bel.then (Bel.then (Bel.then hb1 hb2) hb3) hb4⟩
  · rw [back_same n 5 (by omega) h (by omega)] at q3 q4
    have Q1 := hide q1
    have Q2 := hide q2
    have Q3 := hide q3
    have Q4 := hide q4
    clear q1 q2 q3 q4
    go_enter Tryd.func3, Tryd.ntmps3
    go_wp2_with fail
    refine (Q1.out _).mono ?_
    rintro e w1 ⟨rfl, hb1⟩
    have HT1 := hide (HT.out.keep hb1)
    go_wp2_with fail
    refine (awake_c _ HT1.out).mono ?_
    rintro e w2 ⟨rfl, hb2⟩
    go_wp2_with fail
    refine (Q2.out _).mono ?_
    rintro e w3 ⟨rfl, hb3⟩
    go_wp2_with fail
    refine (Q3.out _).mono ?_
    rintro e w' ⟨rfl, rfl⟩
    go_wp2_with fail
    refine (Q4.out _).mono ?_
    rintro e w4 ⟨rfl, hb4⟩
    go_wp2_with fail
    go_ret
    exact ⟨rfl, Bel.then (Bel.then (Bel.then hb1 hb2) hb3) hb4⟩
  · generalize backN n 5 = x at *
    have Q1 := hide q1
    have Q2 := hide q2
    have Q3 := hide q3
    have Q4 := hide q4
    clear q1 q2 q3 q4
    go_enter Tryd.func3, Tryd.ntmps3
    go_wp2_with fail
    refine (Q1.out _).mono ?_
    rintro e w1 ⟨rfl, hb1⟩
    have HT1 := hide (HT.out.keep hb1)
    go_wp2_with fail
    refine (awake_c _ HT1.out).mono ?_
    rintro e w2 ⟨rfl, hb2⟩
    go_wp2_with fail
    refine (Q2.out _).mono ?_
    rintro e w3 ⟨rfl, hb3⟩
    go_wp2_with fail
    refine (Q3.out _).mono ?_
    rintro e w' ⟨rfl, rfl⟩
    go_wp2_with fail
    refine (Q4.out _).mono ?_
    rintro e w4 ⟨rfl, hb4⟩
    go_wp2_with fail
    go_ret
    exact ⟨rfl, Bel.then (Bel.then (Bel.then hb1 hb2) hb3) hb4⟩
set_option maxRecDepth 100000 in
set_option maxHeartbeats 1000000 in
theorem puts6 (n : Int) (h0 : -9223372036854775808 ≤ n) (h1 : n ≤ 9223372036854775807) (w : World) (hT : TabW w) :
    Calls Tryd.prog 3 #[.int .i64 n, .int .i64 6] w fun e w' => e = .returned (.bool true) ∧ Below w.heap.size w w' := by
  have HT := hide hT
  clear hT
  have t2 : ∀ x : Int, decide (x = x) = true := fun x => by simp
  have t3 : ∀ x : Int, (x == x) = true := fun x => by simp
  have q1 := fun W => put_c n 6 W
  have q2 := fun W => rput_c n 6 W
  have q3 := fun W => get_c (putP n 6) 0 6 (putP_size n 6) W
  have q4 := fun W => put_c (backN n 6) 6 W
  rw [show getP (putP n 6) 0 6 = (backN n 6, true) from get_put n 6 (by omega) (by omega)] at q3
  rw [show putP (backN n 6) 6 = putP n 6 from put_again n 6 (by omega) h0 h1] at q4
  generalize putP n 6 = s at *
  rcases (show n < 0 ∨ (0 ≤ n ∧ n < 281474976710656) ∨ (0 ≤ n ∧ 281474976710656 ≤ n) by omega) with h | ⟨h, h2⟩ | ⟨h, h2⟩
  · generalize backN n 6 = x at *
    have Q1 := hide q1
    have Q2 := hide q2
    have Q3 := hide q3
    have Q4 := hide q4
    clear q1 q2 q3 q4
    go_enter Tryd.func3, Tryd.ntmps3
    go_wp2_with fail
    refine (Q1.out _).mono ?_
    rintro e w1 ⟨rfl, hb1⟩
    have HT1 := hide (HT.out.keep hb1)
    go_wp2_with fail
    refine (awake_c _ HT1.out).mono ?_
    rintro e w2 ⟨rfl, hb2⟩
    go_wp2_with fail
    refine (Q2.out _).mono ?_
    rintro e w3 ⟨rfl, hb3⟩
    go_wp2_with fail
    refine (Q3.out _).mono ?_
    rintro e w' ⟨rfl, rfl⟩
    go_wp2_with fail
    refine (Q4.out _).mono ?_
    rintro e w4 ⟨rfl, hb4⟩
    go_wp2_with fail
    go_ret
    exact ⟨rfl, Bel.then (Bel.then (Bel.then hb1 hb2) hb3) hb4⟩
  · rw [back_same n 6 (by omega) h (by omega)] at q3 q4
    have Q1 := hide q1
    have Q2 := hide q2
    have Q3 := hide q3
    have Q4 := hide q4
    clear q1 q2 q3 q4
    go_enter Tryd.func3, Tryd.ntmps3
    go_wp2_with fail
    refine (Q1.out _).mono ?_
    rintro e w1 ⟨rfl, hb1⟩
    have HT1 := hide (HT.out.keep hb1)
    go_wp2_with fail
    refine (awake_c _ HT1.out).mono ?_
    rintro e w2 ⟨rfl, hb2⟩
    go_wp2_with fail
    refine (Q2.out _).mono ?_
    rintro e w3 ⟨rfl, hb3⟩
    go_wp2_with fail
    refine (Q3.out _).mono ?_
    rintro e w' ⟨rfl, rfl⟩
    go_wp2_with fail
    refine (Q4.out _).mono ?_
    rintro e w4 ⟨rfl, hb4⟩
    go_wp2_with fail
    go_ret
    exact ⟨rfl, Bel.then (Bel.then (Bel.then hb1 hb2) hb3) hb4⟩
  · generalize backN n 6 = x at *
    have Q1 := hide q1
    have Q2 := hide q2
    have Q3 := hide q3
    have Q4 := hide q4
    clear q1 q2 q3 q4
    go_enter Tryd.func3, Tryd.ntmps3
    go_wp2_with fail
    refine (Q1.out _).mono ?_
    rintro e w1 ⟨rfl, hb1⟩
    have HT1 := hide (HT.out.keep hb1)
    go_wp2_with fail
    refine (awake_c _ HT1.out).mono ?_
    rintro e w2 ⟨rfl, hb2⟩
    go_wp2_with fail
    refine (Q2.out _).mono ?_
    rintro e w3 ⟨rfl, hb3⟩
    go_wp2_with fail
    refine (Q3.out _).mono ?_
    rintro e w' ⟨rfl, rfl⟩
    go_wp2_with fail
    refine (Q4.out _).mono ?_
    rintro e w4 ⟨rfl, hb4⟩
    go_wp2_with fail
    go_ret
    exact ⟨rfl, Bel.then (Bel.then (Bel.then hb1 hb2) hb3) hb4⟩
set_option maxRecDepth 100000 in
set_option maxHeartbeats 1000000 in
theorem puts7 (n : Int) (h0 : -9223372036854775808 ≤ n) (h1 : n ≤ 9223372036854775807) (w : World) (hT : TabW w) :
    Calls Tryd.prog 3 #[.int .i64 n, .int .i64 7] w fun e w' => e = .returned (.bool true) ∧ Below w.heap.size w w' := by
  have HT := hide hT
  clear hT
  have t2 : ∀ x : Int, decide (x = x) = true := fun x => by simp
  have t3 : ∀ x : Int, (x == x) = true := fun x => by simp
  have q1 := fun W => put_c n 7 W
  have q2 := fun W => rput_c n 7 W
  have q3 := fun W => get_c (putP n 7) 0 7 (putP_size n 7) W
  have q4 := fun W => put_c (backN n 7) 7 W
  rw [show getP (putP n 7) 0 7 = (backN n 7, true) from get_put n 7 (by omega) (by omega)] at q3
  rw [show putP (backN n 7) 7 = putP n 7 from put_again n 7 (by omega) h0 h1] at q4
  generalize putP n 7 = s at *
  rcases (show n < 0 ∨ (0 ≤ n ∧ n < 72057594037927936) ∨ (0 ≤ n ∧ 72057594037927936 ≤ n) by omega) with h | ⟨h, h2⟩ | ⟨h, h2⟩
  · generalize backN n 7 = x at *
    have Q1 := hide q1
    have Q2 := hide q2
    have Q3 := hide q3
    have Q4 := hide q4
    clear q1 q2 q3 q4
    go_enter Tryd.func3, Tryd.ntmps3
    go_wp2_with fail
    refine (Q1.out _).mono ?_
    rintro e w1 ⟨rfl, hb1⟩
    have HT1 := hide (HT.out.keep hb1)
    go_wp2_with fail
    refine (awake_c _ HT1.out).mono ?_
    rintro e w2 ⟨rfl, hb2⟩
    go_wp2_with fail
    refine (Q2.out _).mono ?_
    rintro e w3 ⟨rfl, hb3⟩
    go_wp2_with fail
    refine (Q3.out _).mono ?_
    rintro e w' ⟨rfl, rfl⟩
    go_wp2_with fail
    refine (Q4.out _).mono ?_
    rintro e w4 ⟨rfl, hb4⟩
    go_wp2_with fail
    go_ret
    exact ⟨rfl, Bel.then (Bel.then (Bel.then hb1 hb2) hb3) hb4⟩
  · rw [back_same n 7 (by omega) h (by omega)] at q3 q4
    have Q1 := hide q1
    have Q2 := hide q2
    have Q3 := hide q3
    have Q4 := hide q4
    clear q1 q2 q3 q4
    go_enter Tryd.func3, Tryd.ntmps3
    go_wp2_with fail
    refine (Q1.out _).mono ?_
    rintro e w1 ⟨rfl, hb1⟩
    have HT1 := hide (HT.out.keep hb1)
    go_wp2_with fail
    refine (awake_c _ HT1.out).mono ?_
    rintro e w2 ⟨rfl, hb2⟩
    go_wp2_with fail
    refine (Q2.out _).mono ?_
    rintro e w3 ⟨rfl, hb3⟩
    go_wp2_with fail
    refine (Q3.out _).mono ?_
    rintro e w' ⟨rfl, rfl⟩
    go_wp2_with fail
    refine (Q4.out _).mono ?_
    rintro e w4 ⟨rfl, hb4⟩
    go_wp2_with fail
    go_ret
    exact ⟨rfl, Bel.then (Bel.then (Bel.then hb1 hb2) hb3) hb4⟩
  · generalize backN n 7 = x at *
    have Q1 := hide q1
    have Q2 := hide q2
    have Q3 := hide q3
    have Q4 := hide q4
    clear q1 q2 q3 q4
    go_enter Tryd.func3, Tryd.ntmps3
    go_wp2_with fail
    refine (Q1.out _).mono ?_
    rintro e w1 ⟨rfl, hb1⟩
    have HT1 := hide (HT.out.keep hb1)
    go_wp2_with fail
    refine (awake_c _ HT1.out).mono ?_
    rintro e w2 ⟨rfl, hb2⟩
    go_wp2_with fail
    refine (Q2.out _).mono ?_
    rintro e w3 ⟨rfl, hb3⟩
    go_wp2_with fail
    refine (Q3.out _).mono ?_
    rintro e w' ⟨rfl, rfl⟩
    go_wp2_with fail
    refine (Q4.out _).mono ?_
    rintro e w4 ⟨rfl, hb4⟩
    go_wp2_with fail
    go_ret
    exact ⟨rfl, Bel.then (Bel.then (Bel.then hb1 hb2) hb3) hb4⟩
set_option maxRecDepth 100000 in
set_option maxHeartbeats 1000000 in
theorem puts8 (n : Int) (h0 : -9223372036854775808 ≤ n) (h1 : n ≤ 9223372036854775807) (w : World) (hT : TabW w) :
    Calls Tryd.prog 3 #[.int .i64 n, .int .i64 8] w fun e w' => e = .returned (.bool true) ∧ Below w.heap.size w w' := by
  have HT := hide hT
  clear hT
  have t2 : ∀ x : Int, decide (x = x) = true := fun x => by simp
  have t3 : ∀ x : Int, (x == x) = true := fun x => by simp
  have q1 := fun W => put_c n 8 W
  have q2 := fun W => rput_c n 8 W
  have q3 := fun W => get_c (putP n 8) 0 8 (putP_size n 8) W
  have q4 := fun W => put_c (backN n 8) 8 W
  rw [show getP (putP n 8) 0 8 = (backN n 8, true) from get_put n 8 (by omega) (by omega)] at q3
  rw [show putP (backN n 8) 8 = putP n 8 from put_again n 8 (by omega) h0 h1] at q4
  generalize putP n 8 = s at *
  · rw [back_eight n h0 h1] at q3 q4
    have Q1 := hide q1
    have Q2 := hide q2
    have Q3 := hide q3
    have Q4 := hide q4
    clear q1 q2 q3 q4
    go_enter Tryd.func3, Tryd.ntmps3
    go_wp2_with fail
    refine (Q1.out _).mono ?_
    rintro e w1 ⟨rfl, hb1⟩
    have HT1 := hide (HT.out.keep hb1)
    go_wp2_with fail
    refine (awake_c _ HT1.out).mono ?_
    rintro e w2 ⟨rfl, hb2⟩
    go_wp2_with fail
    refine (Q2.out _).mono ?_
    rintro e w3 ⟨rfl, hb3⟩
    go_wp2_with fail
    refine (Q3.out _).mono ?_
    rintro e w' ⟨rfl, rfl⟩
    go_wp2_with fail
    refine (Q4.out _).mono ?_
    rintro e w4 ⟨rfl, hb4⟩
    go_wp2_with fail
    go_ret
    exact ⟨rfl, Bel.then (Bel.then (Bel.then hb1 hb2) hb3) hb4⟩
theorem puts_out (n z : Int) (h : z < 1 ∨ 8 < z) (w : World) (hT : TabW w) :
    Calls Tryd.prog 3 #[.int .i64 n, .int .i64 z] w fun e w' => e = .returned (.bool true) ∧ Below w.heap.size w w' := by
  have HT := hide hT
  clear hT
  have q1 := fun W => put_c n z W
  have q2 := fun W => rput_c n z W
  have q3 := fun W => get_c (putP n z) 0 z (putP_size n z) W
  rw [show getP (putP n z) 0 z = (0, false) by unfold getP; rw [if_neg (by omega)]] at q3
  generalize putP n z = s at *
  have Q1 := hide q1
  have Q2 := hide q2
  have Q3 := hide q3
  clear q1 q2 q3
  rcases (show z < 1 ∨ (1 ≤ z ∧ 8 < z) by omega) with h1 | ⟨h1, h2⟩
  all_goals
    clear h
    go_enter Tryd.func3, Tryd.ntmps3
    go_wp2_with fail
    refine (Q1.out _).mono ?_
    rintro e w1 ⟨rfl, hb1⟩
    have HT1 := hide (HT.out.keep hb1)
    go_wp2_with fail
    refine (awake_c _ HT1.out).mono ?_
    rintro e w2 ⟨rfl, hb2⟩
    go_wp2_with fail
    refine (Q2.out _).mono ?_
    rintro e w3 ⟨rfl, hb3⟩
    go_wp2_with fail
    refine (Q3.out _).mono ?_
    rintro e w' ⟨rfl, rfl⟩
    go_wp2_with fail
    go_ret
    exact ⟨rfl, Bel.then (Bel.then hb1 hb2) hb3⟩
theorem puts_w (n z : Int) (h0 : -9223372036854775808 ≤ n) (h1 : n ≤ 9223372036854775807) (w : World) (hT : TabW w) :
    Calls Tryd.prog 3 #[.int .i64 n, .int .i64 z] w fun e w' => e = .returned (.bool true) ∧ Below w.heap.size w w' := by
  by_cases h : z < 1 ∨ 8 < z
  · exact puts_out n z h w hT
  · obtain rfl | rfl | rfl | rfl | rfl | rfl | rfl | rfl : z = 1 ∨ z = 2 ∨ z = 3 ∨ z = 4 ∨ z = 5 ∨ z = 6 ∨ z = 7 ∨ z = 8 := by omega
    · exact puts1 n h0 h1 w hT
    · exact puts2 n h0 h1 w hT
    · exact puts3 n h0 h1 w hT
    · exact puts4 n h0 h1 w hT
    · exact puts5 n h0 h1 w hT
    · exact puts6 n h0 h1 w hT
    · exact puts7 n h0 h1 w hT
    · exact puts8 n h0 h1 w hT
end Go.Proofs.YtlfgfjljddjncaaDoor

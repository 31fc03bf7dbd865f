/- Pages: what is awake, its walk. -/
import Derived.Test.YtfdedkcidemimaaDoorPmH
namespace Go.Proofs.YtfdedkcidemimaaDoor
set_option linter.unusedVariables false
set_option linter.unusedSimpArgs false
open Go.ChangeShapes Go.WideShapes Go.ChangeAt Go.RowKit


theorem TabW.keep {w w' : World} (h : TabW w) (hb : Below w.heap.size w w') : TabW w' := fun j hj => kept hb (h j hj)
set_option maxRecDepth 100000 in
set_option maxHeartbeats 1000000 in
theorem awake_p (w : World) (hT : TabW w) : Calls Tryd.prog 9 #[] w fun e w' => e = .returned (.bool true) ∧ Below w.heap.size w w' := by
  have HT := hide hT
  clear hT
  have HB := hide (Below.refl w.heap.size w)
  have q1 := fun W => new_c 2 W
  have q2 := fun W => putpage_c awP 1 ⟨#[97, 98]⟩ (by rw [aw2]; omega) (by decide) W
  have q3 := fun W => getpage_c awQ 1 (by rw [aw13]; omega) W
  have q4 := fun W => putpage_c awQ 1 ⟨#[99]⟩ (by rw [aw13]; omega) (by decide) W
  have q5 := fun W => cutpage_c awQ 1 (by rw [aw13]; omega) W
  have q6 := fun W => new_c 5 W
  have q7 := fun W => room_c awP (by rw [aw2]; omega) W
  have q8 := fun W => slots_c awQ (by rw [aw13]; omega) W
  have q9 := fun W => freepage_c awQ (by rw [aw13]; omega) W
  have q10 := fun W => kind_c awQ (by rw [aw13]; omega) W
  have q11 := fun W hW => sealed_c awP (by rw [aw2]; omega) W hW
  have q12 := fun W hW => seal_p awP (by rw [aw2]; omega) W hW
  have q13 := fun W hW => sealed_c (sealS awP) (by rw [seal_sz rc]; omega) W hW
  rw [aw0] at q1
  rw [aw6] at q2
  rw [aw7] at q3
  rw [aw8] at q4
  rw [aw9] at q5
  rw [aw1] at q6
  rw [aw5] at q7
  rw [aw10] at q8
  rw [aw11] at q9
  rw [aw12] at q10
  rw [aw16] at q11
  rw [aw15] at q13
  have z1 : (awP.size : Int) = 512 := by rw [aw2]; rfl
  have z2 : (awQ.size : Int) = 512 := by rw [aw13]; rfl
  have s1 : ∀ W, (Instr.slice 9 (.string awP) (some (.int .i64 17)) (some (.int .i64 19)) none).run Tryd.prog W = .ok (.string ⟨#[2, 0]⟩) W := fun W => aw3 ▸ cut_str awP 17 19 (by omega) (by rw [aw2]; omega) W
  have s2 : ∀ W, (Instr.slice 9 (.string awQ) (some (.int .i64 510)) none none).run Tryd.prog W = .ok (.string ⟨#[97, 98]⟩) W := by
    intro W
    have h2 : (510 : Int) ≤ awQ.size := by rw [z2]; decide
    have h3 : awQ.extract 510 awQ.size = ⟨#[97, 98]⟩ := by rw [aw13]; exact aw14
    rw [← h3]
    clear z2
    go_simp
  generalize sealS awP = SP at *
  generalize awP = P at *
  generalize awQ = Q at *
  have t1 : ∀ b : Bool, (b == b) = true := fun b => by cases b <;> rfl
  have t2 : ∀ x : Int, decide (x = x) = true := fun x => by simp
  have t3 : ∀ x : Int, (x == x) = true := fun x => by simp
  have t4 : ∀ s : ByteArray, (s.toList == s.toList) = true := fun s => by simp
  have Q1 := hide q1
  have Q2 := hide q2
  have Q3 := hide q3
  have Q4 := hide q4
  have Q5 := hide q5
  have Q6 := hide q6
  have Q7 := hide q7
  have Q8 := hide q8
  have Q9 := hide q9
  have Q10 := hide q10
  have Q11 := hide q11
  have Q12 := hide q12
  have Q13 := hide q13
  clear q1 q2 q3 q4 q5 q6 q7 q8 q9 q10 q11 q12 q13
  go_enter Tryd.func9, Tryd.ntmps9
  go_wp2_with fail
  refine (Q1.out _).mono ?_
  rintro e wz1 ⟨rfl, hb⟩
  replace HB := hide (Bel.then HB.out hb)
  clear hb
  go_wp2_with fail
  refine (Q2.out _).mono ?_
  rintro e wz2 ⟨rfl, hb⟩
  replace HB := hide (Bel.then HB.out hb)
  clear hb
  go_wp2_with fail
  refine (Q3.out _).mono ?_
  rintro e wz3 ⟨rfl, hb⟩
  replace HB := hide (Bel.then HB.out hb)
  clear hb
  go_wp2_with fail
  refine (Q4.out _).mono ?_
  rintro e wz4 ⟨rfl, hb⟩
  replace HB := hide (Bel.then HB.out hb)
  clear hb
  go_wp2_with fail
  refine (Q5.out _).mono ?_
  rintro e wz5 ⟨rfl, hb⟩
  replace HB := hide (Bel.then HB.out hb)
  clear hb
  go_wp2_with fail
  refine (Q6.out _).mono ?_
  rintro e wz6 ⟨rfl, hb⟩
  replace HB := hide (Bel.then HB.out hb)
  clear hb
  go_wp2_with fail
  refine (Q7.out _).mono ?_
  rintro e wz7 ⟨rfl, hb⟩
  replace HB := hide (Bel.then HB.out hb)
  clear hb
  go_wp2_with fail
  refine (Q8.out _).mono ?_
  rintro e wz8 ⟨rfl, hb⟩
  replace HB := hide (Bel.then HB.out hb)
  clear hb
  go_wp2_with fail
  refine (Q9.out _).mono ?_
  rintro e wz9 ⟨rfl, hb⟩
  replace HB := hide (Bel.then HB.out hb)
  clear hb
  go_wp2_with fail
  refine (Q10.out _).mono ?_
  rintro e wz10 ⟨rfl, hb⟩
  replace HB := hide (Bel.then HB.out hb)
  clear hb
  go_wp2_with fail
  refine (Q11.out _ (HT.out.keep HB.out)).mono ?_
  rintro e wz11 ⟨rfl, hb⟩
  replace HB := hide (Bel.then HB.out hb)
  clear hb
  go_wp2_with fail
  refine (Q12.out _ (fun W hW => HT.out.keep (Bel.then HB.out hW))).mono ?_
  rintro e wz12 ⟨rfl, hb⟩
  replace HB := hide (Bel.then HB.out hb)
  clear hb
  go_wp2_with fail
  refine (Q13.out _ (HT.out.keep HB.out)).mono ?_
  rintro e wz13 ⟨rfl, hb⟩
  replace HB := hide (Bel.then HB.out hb)
  clear hb
  go_wp2_with fail
  go_ret
  exact ⟨rfl, HB.out⟩
end Go.Proofs.YtfdedkcidemimaaDoor

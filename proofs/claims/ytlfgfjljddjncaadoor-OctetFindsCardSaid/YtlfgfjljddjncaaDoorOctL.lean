/- What is awake, and the walk of OctetGets. -/
import Derived.Test.YtlfgfjljddjncaaDoorSeal
import Derived.MakeChecks
namespace Go.Proofs.YtlfgfjljddjncaaDoor
set_option linter.unusedVariables false
open Go.ChangeShapes Go.WideShapes Go.ChangeAt Go.RowKit

theorem TabW.keep {w w' : World} (h : TabW w) (hb : Below w.heap.size w w') : TabW w' := fun j hj => kept hb (h j hj)
theorem aw_get : getP ⟨#[255, 255]⟩ 0 2 = (65535, true) := by decide +kernel
theorem aw_open : openP (sealP ⟨#[97, 98]⟩) = (⟨#[97, 98]⟩, true) := by decide +kernel
theorem aw_seal : (sealP ⟨#[97, 98]⟩).size = 6 := by decide +kernel
theorem aw_put : strOfNums (putL 258 3) = ⟨#[0, 1, 2]⟩ := by decide +kernel
theorem aw_sum : sumP ⟨#[49, 50, 51, 52, 53, 54, 55, 56, 57]⟩ = 3421780262 := by decide +kernel
theorem aw_text : putTextP ⟨#[97, 98]⟩ = ⟨#[0, 2, 97, 98]⟩ := by decide +kernel
set_option maxHeartbeats 1000000 in
theorem awake_c (w : World) (hT : TabW w) : Calls Tryd.prog 9 #[] w fun e w' => e = .returned (.bool true) ∧ Below w.heap.size w w' := by
  have HT := hide hT
  clear hT
  have q1 := fun W => get_c ⟨#[255, 255]⟩ 0 2 (by decide) W
  have q2 := fun W => seal_c ⟨#[97, 98]⟩ (by decide) W
  have q3 := fun W => open_c (sealP ⟨#[97, 98]⟩) (by rw [aw_seal]; decide) W
  have q4 := fun W => put3 258 W
  have q5 := fun W => sum_c ⟨#[49, 50, 51, 52, 53, 54, 55, 56, 57]⟩ (by decide) W
  have q6 := fun W => putText_c ⟨#[97, 98]⟩ (by decide) W
  rw [aw_get] at q1
  rw [aw_open] at q3
  rw [aw_put] at q4
  rw [aw_sum] at q5
  rw [aw_text] at q6
  generalize sealP ⟨#[97, 98]⟩ = x at *
  have Q1 := hide q1
  have Q2 := hide q2
  have Q3 := hide q3
  have Q4 := hide q4
  have Q5 := hide q5
  have Q6 := hide q6
  clear q1 q2 q3 q4 q5 q6
  go_enter Tryd.func9, Tryd.ntmps9
  go_wp2_with fail
  refine (Q1.out _).mono ?_
  rintro e w' ⟨rfl, rfl⟩
  go_wp2_with fail
  refine (Q2.out _ HT.out).mono ?_
  rintro e w1 ⟨rfl, hb1⟩
  have HT1 := hide (HT.out.keep hb1)
  go_wp2_with fail
  refine (Q3.out _ HT1.out).mono ?_
  rintro e w' ⟨rfl, rfl⟩
  go_wp2_with fail
  refine (Q4.out _).mono ?_
  rintro e w2 ⟨rfl, hb2⟩
  have HT2 := hide (HT1.out.keep hb2)
  go_wp2_with fail
  refine (Q5.out _ HT2.out).mono ?_
  rintro e w' ⟨rfl, rfl⟩
  go_wp2_with fail
  refine (Q6.out _).mono ?_
  rintro e w3 ⟨rfl, hb3⟩
  go_wp2_with fail
  go_ret
  exact ⟨rfl, Bel.then (Bel.then hb1 hb2) hb3⟩
theorem gets_w (s : ByteArray) (a z : Int) (hm : s.size ≤ 9223372036854775807) (ha : -9223372036854775808 ≤ a) (w : World) (hT : TabW w) :
    Calls Tryd.prog 4 #[.string s, .int .i64 a, .int .i64 z] w fun e w' => e = .returned (.bool true) ∧ Below w.heap.size w w' := by
  have HT := hide hT
  clear hT
  have t1 : ∀ b : Bool, (b == b) = true := fun b => by cases b <;> rfl
  have t2 : ∀ x : Int, decide (x = x) = true := fun x => by simp
  have t3 : ∀ x : Int, (x == x) = true := fun x => by simp
  have q1 := fun W => get_c s a z hm W
  have q2 := fun W => rget_c s a z hm ha W
  generalize getP s a z = p at *
  obtain ⟨v, ok⟩ := p
  have Q1 := hide q1
  have Q2 := hide q2
  clear q1 q2 hm ha
  go_enter Tryd.func4, Tryd.ntmps4
  go_wp2_with fail
  refine (Q1.out _).mono ?_
  rintro e w' ⟨rfl, rfl⟩
  go_wp2_with fail
  refine (Q2.out _).mono ?_
  rintro e w' ⟨rfl, rfl⟩
  go_wp2_with fail
  refine (awake_c _ HT.out).mono ?_
  rintro e w1 ⟨rfl, hb⟩
  go_wp2_with fail
  go_ret
  exact ⟨rfl, hb⟩
theorem tabTab : (Tryd.prog.globals[0]?).map (·.type) = some 42 := by kernel_rfl
theorem gTab : Tryd.prog.globalNamed "tabellion/octet.shifted" = some 0 := by kernel_rfl
theorem tabW_of {W : World} (h0 : laidMetH Tryd.prog [("tabellion/octet.shifted", Rows.laid_tabellion_octet_shifted)] W) : TabW W := by
  rw [MakeChecks.laidMetH_plain _ _ _ (by kernel_rfl)] at h0
  have ht : Lib.TabIs Tryd.prog W "tabellion/octet.shifted" .u32 crcTab := Lib.tabIs_of_head gTab tabTab Tryd.underlying42 Tryd.underlying36 (by kernel_rfl) (by kernel_rfl) h0
  intro j hj
  have := ht.cell gTab j hj
  rw [this]
  rfl
end Go.Proofs.YtlfgfjljddjncaaDoor

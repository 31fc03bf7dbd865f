/- Pages: the walks of PageLooks, PageMakes, PageChanges. -/
import Derived.Test.YtfdedkcidemimaaDoorPsA
import Derived.Test.YtfdedkcidemimaaDoorPrK
import Derived.MakeChecks
namespace Go.Proofs.YtfdedkcidemimaaDoor
set_option linter.unusedVariables false
set_option linter.unusedSimpArgs false
open Go.ChangeShapes Go.WideShapes Go.ChangeAt Go.RowKit

theorem tabTab : (Tryd.prog.globals[0]?).map (·.type) = some 76 := by kernel_rfl
theorem gTab : Tryd.prog.globalNamed "tabellion/octet.shifted" = some 0 := by kernel_rfl
theorem tabW_of {W : World} (h0 : laidMetH Tryd.prog [("tabellion/octet.shifted", Rows.laid_tabellion_octet_shifted)] W) : TabW W := by
  rw [MakeChecks.laidMetH_plain _ _ _ (by kernel_rfl)] at h0
  have ht : Lib.TabIs Tryd.prog W "tabellion/octet.shifted" .u32 crcTab := Lib.tabIs_of_head gTab tabTab Tryd.underlying76 Tryd.underlying75 (by kernel_rfl) (by kernel_rfl) h0
  intro j hj
  have := ht.cell gTab j hj
  rw [this]
  rfl
set_option maxRecDepth 100000 in
set_option maxHeartbeats 1000000 in
theorem looks_big (p : ByteArray) (s : Int) (w : World) (hT : TabW w) (hp : 600 < p.size) : Calls Tryd.prog 3 #[.string p, .int .i64 s] w fun e w' => e = .returned (.bool true) ∧ Below w.heap.size w w' := by
  have HT := hide hT
  clear hT
  have HB := hide (Below.refl w.heap.size w)
  have QA := hide (fun W hW => awake_p W hW)
  have h1 : (600 : Int) < p.size := by omega
  go_enter Tryd.func3, Tryd.ntmps3
  go_wp2_with fail
  refine (QA.out _ (HT.out.keep HB.out)).mono ?_
  rintro e wz1 ⟨rfl, hb⟩
  replace HB := hide (Bel.then HB.out hb)
  clear hb
  go_wp2_with fail
  go_ret
  exact ⟨rfl, HB.out⟩
set_option maxRecDepth 100000 in
set_option maxHeartbeats 1000000 in
theorem looks_w (p : ByteArray) (s : Int) (w : World) (hT : TabW w) (hp : p.size ≤ 600) : Calls Tryd.prog 3 #[.string p, .int .i64 s] w fun e w' => e = .returned (.bool true) ∧ Below w.heap.size w w' := by
  have HT := hide hT
  clear hT
  have HB := hide (Below.refl w.heap.size w)
  have QA := hide (fun W hW => awake_p W hW)
  have h1 : ¬ (600 : Int) < p.size := by omega
  have hm : p.size ≤ 4000 := by omega
  have q0 := fun W => getpage_c p s hm W
  have q1 := fun W => rgetpage_c p s hm W
  have q2 := fun W => right_c p hm W
  have q3 := fun W => rright_c p hm W
  have q4 := fun W => kind_c p hm W
  have q5 := fun W => rkind_c p hm W
  have q6 := fun W => lsn_c p hm W
  have q7 := fun W => rlsn_c p hm W
  have q8 := fun W => link_c p hm W
  have q9 := fun W => rlink_c p hm W
  have q10 := fun W => slots_c p hm W
  have q11 := fun W => rslots_c p hm W
  have q12 := fun W => freepage_c p hm W
  have q13 := fun W => rfree_c p hm W
  have q14 := fun W => room_c p hm W
  have q15 := fun W => rroom_c p hm W
  have q16 := fun W hW => sealed_c p hm W hW
  have q17 := fun W => rsealed_c p hm W
  have q18 := fun W hW => seal_p p hm W hW
  have q19 := fun W => rseal_c p hm W
  generalize getS p s = g at *
  obtain ⟨g1, g2⟩ := g
  generalize rightB p = v1 at *
  generalize kindS p = v2 at *
  generalize lsnS p = v3 at *
  generalize linkS p = v4 at *
  generalize slotsS p = v5 at *
  generalize freeS p = v6 at *
  generalize roomS p = v7 at *
  generalize sealedS p = v8 at *
  generalize sealS p = v9 at *
  have Q0 := hide q0
  have Q1 := hide q1
  have Q2 := hide q2
  have Q3 := hide q3
  have Q4 := hide q4
  have Q5 := hide q5
  have Q6 := hide q6
  have Q7 := hide q7
  have Q8 := hide q8
  have Q9 := hide q9
  have Q10 := hide q10
  have Q11 := hide q11
  have Q12 := hide q12
  have Q13 := hide q13
  have Q14 := hide q14
  have Q15 := hide q15
  have Q16 := hide q16
  have Q17 := hide q17
  have Q18 := hide q18
  have Q19 := hide q19
  clear q0 q1 q2 q3 q4 q5 q6 q7 q8 q9 q10 q11 q12 q13 q14 q15 q16 q17 q18 q19
  have t1 : ∀ b : Bool, (b == b) = true := fun b => by cases b <;> rfl
  have t2 : ∀ x : Int, decide (x = x) = true := fun x => by simp
  have t3 : ∀ x : Int, (x == x) = true := fun x => by simp
  have t4 : ∀ s : ByteArray, (s.toList == s.toList) = true := fun s => by simp
  go_enter Tryd.func3, Tryd.ntmps3
  go_wp2_with fail
  refine (Q0.out _).mono ?_
  rintro e wz1 ⟨rfl, hb⟩
  replace HB := hide (Bel.then HB.out hb)
  clear hb
  go_wp2_with fail
  refine (Q1.out _).mono ?_
  rintro e wz2 ⟨rfl, hb⟩
  replace HB := hide (Bel.then HB.out hb)
  clear hb
  go_wp2_with fail
  refine (Q2.out _).mono ?_
  rintro e wz3 ⟨rfl, hb⟩
  replace HB := hide (Bel.then HB.out hb)
  clear hb
  go_wp2_with fail
  refine (Q3.out _).mono ?_
  rintro e wz4 ⟨rfl, hb⟩
  replace HB := hide (Bel.then HB.out hb)
  clear hb
  go_wp2_with fail
  refine (Q4.out _).mono ?_
  rintro e wz5 ⟨rfl, hb⟩
  replace HB := hide (Bel.then HB.out hb)
  clear hb
  go_wp2_with fail
  refine (Q5.out _).mono ?_
  rintro e wz6 ⟨rfl, hb⟩
  replace HB := hide (Bel.then HB.out hb)
  clear hb
  go_wp2_with fail
  refine (Q6.out _).mono ?_
  rintro e wz7 ⟨rfl, hb⟩
  replace HB := hide (Bel.then HB.out hb)
  clear hb
  go_wp2_with fail
  refine (Q7.out _).mono ?_
  rintro e wz8 ⟨rfl, hb⟩
  replace HB := hide (Bel.then HB.out hb)
  clear hb
  go_wp2_with fail
  refine (Q8.out _).mono ?_
  rintro e wz9 ⟨rfl, hb⟩
  replace HB := hide (Bel.then HB.out hb)
  clear hb
  go_wp2_with fail
  refine (Q9.out _).mono ?_
  rintro e wz10 ⟨rfl, hb⟩
  replace HB := hide (Bel.then HB.out hb)
  clear hb
  go_wp2_with fail
  refine (QA.out _ (HT.out.keep HB.out)).mono ?_
  rintro e wz11 ⟨rfl, hb⟩
  replace HB := hide (Bel.then HB.out hb)
  clear hb
  go_wp2_with fail
  refine (Q10.out _).mono ?_
  rintro e wz12 ⟨rfl, hb⟩
  replace HB := hide (Bel.then HB.out hb)
  clear hb
  go_wp2_with fail
  refine (Q11.out _).mono ?_
  rintro e wz13 ⟨rfl, hb⟩
  replace HB := hide (Bel.then HB.out hb)
  clear hb
  go_wp2_with fail
  refine (Q12.out _).mono ?_
  rintro e wz14 ⟨rfl, hb⟩
  replace HB := hide (Bel.then HB.out hb)
  clear hb
  go_wp2_with fail
  refine (Q13.out _).mono ?_
  rintro e wz15 ⟨rfl, hb⟩
  replace HB := hide (Bel.then HB.out hb)
  clear hb
  go_wp2_with fail
  refine (Q14.out _).mono ?_
  rintro e wz16 ⟨rfl, hb⟩
  replace HB := hide (Bel.then HB.out hb)
  clear hb
  go_wp2_with fail
  refine (Q15.out _).mono ?_
  rintro e wz17 ⟨rfl, hb⟩
  replace HB := hide (Bel.then HB.out hb)
  clear hb
  go_wp2_with fail
  refine (Q16.out _ (HT.out.keep HB.out)).mono ?_
  rintro e wz18 ⟨rfl, hb⟩
  replace HB := hide (Bel.then HB.out hb)
  clear hb
  go_wp2_with fail
  refine (Q17.out _).mono ?_
  rintro e wz19 ⟨rfl, hb⟩
  replace HB := hide (Bel.then HB.out hb)
  clear hb
  go_wp2_with fail
  refine (Q18.out _ (fun W hW => HT.out.keep (Bel.then HB.out hW))).mono ?_
  rintro e wz20 ⟨rfl, hb⟩
  replace HB := hide (Bel.then HB.out hb)
  clear hb
  go_wp2_with fail
  refine (Q19.out _).mono ?_
  rintro e wz21 ⟨rfl, hb⟩
  replace HB := hide (Bel.then HB.out hb)
  clear hb
  go_wp2_with fail
  go_ret
  exact ⟨rfl, HB.out⟩
set_option maxRecDepth 100000 in
set_option maxHeartbeats 1000000 in
theorem makes_big (p : ByteArray) (n : Int) (w : World) (hT : TabW w) (hp : 600 < p.size) : Calls Tryd.prog 4 #[.string p, .int .i64 n] w fun e w' => e = .returned (.bool true) ∧ Below w.heap.size w w' := by
  have HT := hide hT
  clear hT
  have HB := hide (Below.refl w.heap.size w)
  have QA := hide (fun W hW => awake_p W hW)
  have h1 : (600 : Int) < p.size := by omega
  go_enter Tryd.func4, Tryd.ntmps4
  go_wp2_with fail
  refine (QA.out _ (HT.out.keep HB.out)).mono ?_
  rintro e wz1 ⟨rfl, hb⟩
  replace HB := hide (Bel.then HB.out hb)
  clear hb
  go_wp2_with fail
  go_ret
  exact ⟨rfl, HB.out⟩
set_option maxRecDepth 100000 in
set_option maxHeartbeats 1000000 in
theorem makes_w (p : ByteArray) (n : Int) (w : World) (hT : TabW w) (hp : p.size ≤ 600) : Calls Tryd.prog 4 #[.string p, .int .i64 n] w fun e w' => e = .returned (.bool true) ∧ Below w.heap.size w w' := by
  have HT := hide hT
  clear hT
  have HB := hide (Below.refl w.heap.size w)
  have QA := hide (fun W hW => awake_p W hW)
  have h1 : ¬ (600 : Int) < p.size := by omega
  have hm : p.size ≤ 4000 := by omega
  have q0 := fun W => new_c n W
  have q1 := fun W => rnew_c n W
  have q2 := fun W => setLsn_c p n hm W
  have q3 := fun W => rsetLsn_c p n hm W
  have q4 := fun W => setLink_c p n hm W
  have q5 := fun W => rsetLink_c p n hm W
  generalize newS n = v1 at *
  generalize setLsnS p n = v2 at *
  generalize setLinkS p n = v3 at *
  have Q0 := hide q0
  have Q1 := hide q1
  have Q2 := hide q2
  have Q3 := hide q3
  have Q4 := hide q4
  have Q5 := hide q5
  clear q0 q1 q2 q3 q4 q5
  have t1 : ∀ b : Bool, (b == b) = true := fun b => by cases b <;> rfl
  have t2 : ∀ x : Int, decide (x = x) = true := fun x => by simp
  have t3 : ∀ x : Int, (x == x) = true := fun x => by simp
  have t4 : ∀ s : ByteArray, (s.toList == s.toList) = true := fun s => by simp
  go_enter Tryd.func4, Tryd.ntmps4
  go_wp2_with fail
  refine (QA.out _ (HT.out.keep HB.out)).mono ?_
  rintro e wz1 ⟨rfl, hb⟩
  replace HB := hide (Bel.then HB.out hb)
  clear hb
  go_wp2_with fail
  refine (Q0.out _).mono ?_
  rintro e wz2 ⟨rfl, hb⟩
  replace HB := hide (Bel.then HB.out hb)
  clear hb
  go_wp2_with fail
  refine (Q1.out _).mono ?_
  rintro e wz3 ⟨rfl, hb⟩
  replace HB := hide (Bel.then HB.out hb)
  clear hb
  go_wp2_with fail
  refine (Q2.out _).mono ?_
  rintro e wz4 ⟨rfl, hb⟩
  replace HB := hide (Bel.then HB.out hb)
  clear hb
  go_wp2_with fail
  refine (Q3.out _).mono ?_
  rintro e wz5 ⟨rfl, hb⟩
  replace HB := hide (Bel.then HB.out hb)
  clear hb
  go_wp2_with fail
  refine (Q4.out _).mono ?_
  rintro e wz6 ⟨rfl, hb⟩
  replace HB := hide (Bel.then HB.out hb)
  clear hb
  go_wp2_with fail
  refine (Q5.out _).mono ?_
  rintro e wz7 ⟨rfl, hb⟩
  replace HB := hide (Bel.then HB.out hb)
  clear hb
  go_wp2_with fail
  go_ret
  exact ⟨rfl, HB.out⟩
set_option maxRecDepth 100000 in
set_option maxHeartbeats 1000000 in
theorem changes_big (p : ByteArray) (s : Int) (r : ByteArray) (w : World) (hT : TabW w) (hp : 600 < p.size) : Calls Tryd.prog 5 #[.string p, .int .i64 s, .string r] w fun e w' => e = .returned (.bool true) ∧ Below w.heap.size w w' := by
  have HT := hide hT
  clear hT
  have HB := hide (Below.refl w.heap.size w)
  have QA := hide (fun W hW => awake_p W hW)
  have h1 : (600 : Int) < p.size := by omega
  go_enter Tryd.func5, Tryd.ntmps5
  go_wp2_with fail
  refine (QA.out _ (HT.out.keep HB.out)).mono ?_
  rintro e wz1 ⟨rfl, hb⟩
  replace HB := hide (Bel.then HB.out hb)
  clear hb
  go_wp2_with fail
  go_ret
  exact ⟨rfl, HB.out⟩
set_option maxRecDepth 100000 in
set_option maxHeartbeats 1000000 in
theorem changes_big2 (p : ByteArray) (s : Int) (r : ByteArray) (w : World) (hT : TabW w) (hp : p.size ≤ 600) (hr : 600 < r.size) : Calls Tryd.prog 5 #[.string p, .int .i64 s, .string r] w fun e w' => e = .returned (.bool true) ∧ Below w.heap.size w w' := by
  have HT := hide hT
  clear hT
  have HB := hide (Below.refl w.heap.size w)
  have QA := hide (fun W hW => awake_p W hW)
  have h1 : ¬ (600 : Int) < p.size := by omega
  have h2 : (600 : Int) < r.size := by omega
  go_enter Tryd.func5, Tryd.ntmps5
  go_wp2_with fail
  refine (QA.out _ (HT.out.keep HB.out)).mono ?_
  rintro e wz1 ⟨rfl, hb⟩
  replace HB := hide (Bel.then HB.out hb)
  clear hb
  go_wp2_with fail
  go_ret
  exact ⟨rfl, HB.out⟩
set_option maxRecDepth 100000 in
set_option maxHeartbeats 1000000 in
theorem changes_w (p : ByteArray) (s : Int) (r : ByteArray) (w : World) (hT : TabW w) (hp : p.size ≤ 600) (hr : r.size ≤ 600) : Calls Tryd.prog 5 #[.string p, .int .i64 s, .string r] w fun e w' => e = .returned (.bool true) ∧ Below w.heap.size w w' := by
  have HT := hide hT
  clear hT
  have HB := hide (Below.refl w.heap.size w)
  have QA := hide (fun W hW => awake_p W hW)
  have h1 : ¬ (600 : Int) < p.size := by omega
  have h2 : ¬ (600 : Int) < r.size := by omega
  have hm : p.size ≤ 4000 := by omega
  have hmr : r.size ≤ 4000 := by omega
  have q0 := fun W => putpage_c p s r hm hmr W
  have q1 := fun W => rputpage_c p s r hm hmr W
  have q2 := fun W => setpage_c p s r hm hmr W
  have q3 := fun W => rsetpage_c p s r hm hmr W
  have q4 := fun W => addpage_c p s r hm hmr W
  have q5 := fun W => raddpage_c p s r hm hmr W
  have q6 := fun W => cutpage_c p s hm W
  have q7 := fun W => rcutpage_c p s hm W
  have q8 := fun W => delpage_c p s hm W
  have q9 := fun W => rdelpage_c p s hm W
  generalize putS p s r = v0 at *
  obtain ⟨a0, b0⟩ := v0
  generalize setS p s r = v1 at *
  obtain ⟨a1, b1⟩ := v1
  generalize addS p s r = v2 at *
  obtain ⟨a2, b2⟩ := v2
  generalize cutS p s = v3 at *
  obtain ⟨a3, b3⟩ := v3
  generalize delS p s = v4 at *
  obtain ⟨a4, b4⟩ := v4
  have Q0 := hide q0
  have Q1 := hide q1
  have Q2 := hide q2
  have Q3 := hide q3
  have Q4 := hide q4
  have Q5 := hide q5
  have Q6 := hide q6
  have Q7 := hide q7
  have Q8 := hide q8
  have Q9 := hide q9
  clear q0 q1 q2 q3 q4 q5 q6 q7 q8 q9
  have t1 : ∀ b : Bool, (b == b) = true := fun b => by cases b <;> rfl
  have t2 : ∀ x : Int, decide (x = x) = true := fun x => by simp
  have t3 : ∀ x : Int, (x == x) = true := fun x => by simp
  have t4 : ∀ s : ByteArray, (s.toList == s.toList) = true := fun s => by simp
  go_enter Tryd.func5, Tryd.ntmps5
  go_wp2_with fail
  refine (Q0.out _).mono ?_
  rintro e wz1 ⟨rfl, hb⟩
  replace HB := hide (Bel.then HB.out hb)
  clear hb
  go_wp2_with fail
  refine (Q1.out _).mono ?_
  rintro e wz2 ⟨rfl, hb⟩
  replace HB := hide (Bel.then HB.out hb)
  clear hb
  go_wp2_with fail
  refine (Q2.out _).mono ?_
  rintro e wz3 ⟨rfl, hb⟩
  replace HB := hide (Bel.then HB.out hb)
  clear hb
  go_wp2_with fail
  refine (Q3.out _).mono ?_
  rintro e wz4 ⟨rfl, hb⟩
  replace HB := hide (Bel.then HB.out hb)
  clear hb
  go_wp2_with fail
  refine (Q4.out _).mono ?_
  rintro e wz5 ⟨rfl, hb⟩
  replace HB := hide (Bel.then HB.out hb)
  clear hb
  go_wp2_with fail
  refine (Q5.out _).mono ?_
  rintro e wz6 ⟨rfl, hb⟩
  replace HB := hide (Bel.then HB.out hb)
  clear hb
  go_wp2_with fail
  refine (Q6.out _).mono ?_
  rintro e wz7 ⟨rfl, hb⟩
  replace HB := hide (Bel.then HB.out hb)
  clear hb
  go_wp2_with fail
  refine (Q7.out _).mono ?_
  rintro e wz8 ⟨rfl, hb⟩
  replace HB := hide (Bel.then HB.out hb)
  clear hb
  go_wp2_with fail
  refine (Q8.out _).mono ?_
  rintro e wz9 ⟨rfl, hb⟩
  replace HB := hide (Bel.then HB.out hb)
  clear hb
  go_wp2_with fail
  refine (Q9.out _).mono ?_
  rintro e wz10 ⟨rfl, hb⟩
  replace HB := hide (Bel.then HB.out hb)
  clear hb
  go_wp2_with fail
  refine (QA.out _ (HT.out.keep HB.out)).mono ?_
  rintro e wz11 ⟨rfl, hb⟩
  replace HB := hide (Bel.then HB.out hb)
  clear hb
  go_wp2_with fail
  go_ret
  exact ⟨rfl, HB.out⟩
end Go.Proofs.YtfdedkcidemimaaDoor

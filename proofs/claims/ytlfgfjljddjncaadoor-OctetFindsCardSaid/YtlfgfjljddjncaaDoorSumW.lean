/- The reference's Seal and Open; what is sealed is opened; the walk of OctetSums. -/
import Derived.Test.YtlfgfjljddjncaaDoorSumM
import Derived.Test.YtlfgfjljddjncaaDoorOctL
import Derived.Test.YtlfgfjljddjncaaDoorTextM
namespace Go.Proofs.YtlfgfjljddjncaaDoor
set_option linter.unusedVariables false
open Go.ChangeShapes Go.WideShapes Go.ChangeAt Go.RowKit

theorem rsumS_c (s : ByteArray) (hm : s.size ≤ 9223372036854775807) (w : World) :
    Calls Tryd.prog 21 #[.string s] w fun e w' => e = .returned (.int .i64 (sumP s)) ∧ w = w' := by
  rw [← sumP_same]
  exact rsum_c s hm w
theorem rput4_c (n : Int) (w : World) :
    Calls Tryd.prog 10 #[.int .i64 n, .int .i64 4] w fun e w' => e = .returned (.string (strOfNums (putL n 4))) ∧ Below w.heap.size w w' := by
  rw [← putP_in n 4 (by omega)]
  exact rput_c n 4 w
theorem rseal_c (s : ByteArray) (hs : s.size ≤ 8388608) (w : World) :
    Calls Tryd.prog 22 #[.string s] w fun e w' => e = .returned (.string (sealP s)) ∧ Below w.heap.size w w' := by
  have q1 := fun W => rsumS_c s (by omega) W
  have q2 := fun W => rput4_c (sumP s) W
  have hz : ((strOfNums (putL (sumP s) 4)).size : Int) ≤ 8388608 := by rw [strOf_size, putL_len]; omega
  have hs2 : (s.size : Int) ≤ 8388608 := by omega
  have e : sealP s = strOfNums (putL (sumP s) 4) ++ s := rfl
  generalize strOfNums (putL (sumP s) 4) = x at *
  generalize sumP s = n at *
  have Q1 := hide q1
  have Q2 := hide q2
  have E := hide e
  clear q1 q2 e
  go_enter Tryd.func22, Tryd.ntmps22
  go_wp2_with fail
  refine (Q1.out _).mono ?_
  rintro e w' ⟨rfl, rfl⟩
  go_wp2_with fail
  refine (Q2.out _).mono ?_
  rintro e w' ⟨rfl, hb⟩
  go_wp2_with fail
  go_ret
  exact ⟨ret_str (by rw [E.out]), hb⟩
theorem ropen_c (t : ByteArray) (hm : t.size ≤ 9223372036854775807) (w : World) :
    Calls Tryd.prog 18 #[.string t] w fun e w' => e = .returned (.tuple #[.string (openP t).1, .bool (openP t).2]) ∧ w = w' := by
  have q1 := fun W => rget_c t 0 4 hm (by omega) W
  have q2 := fun W => rsumS_c (t.extract 4 t.size) (by rw [ByteArray.size_extract]; omega) W
  have hp : openP t = if (getP t 0 4).2 && ((getP t 0 4).1 == sumP (t.extract 4 t.size)) then (t.extract 4 t.size, true) else (⟨#[]⟩, false) := rfl
  rcases getP_four t with ⟨h, hg⟩ | ⟨h, hg⟩
  · rw [hg] at q1 hp
    rw [hp]
    have Q1 := hide q1
    clear q1 q2 hp hg
    go_enter Tryd.func18, Tryd.ntmps18
    go_wp2_with fail
    refine (Q1.out _).mono ?_
    rintro e w' ⟨rfl, rfl⟩
    go_wp2_with fail
    go_ret2
    exact ⟨rfl, rfl⟩
  · have h4 : (4 : Int) ≤ t.size := by omega
    generalize getP t 0 4 = p at *
    obtain ⟨v, ok⟩ := p
    simp only at hg q1 hp
    subst hg
    generalize sumP (t.extract 4 t.size) = z at *
    cases hv : v == z
    all_goals
      rw [hp, hv]
      have Q1 := hide q1
      have Q2 := hide q2
      clear q1 q2 hp
      go_enter Tryd.func18, Tryd.ntmps18
      go_wp2_with fail
      refine (Q1.out _).mono ?_
      rintro e w' ⟨rfl, rfl⟩
      go_wp2_with fail
      refine (Q2.out _).mono ?_
      rintro e w' ⟨rfl, rfl⟩
      go_wp2_with fail
      go_ret2
      exact ⟨rfl, rfl⟩
theorem sumP_range (s : ByteArray) : 0 ≤ sumP s ∧ sumP s < 4294967296 := by
  rw [← sumP_same]
  obtain ⟨v, _, h2, h3⟩ := sum_same s.data.toList 4294967295 (by omega)
  rw [show ((4294967295 : Nat) : Int) = 4294967295 from rfl] at h2
  unfold rsumP rsumL
  have a := xor64 v 4294967295 h3 (by omega)
  rw [h2, show (4294967295 : Int) = ((4294967295 : Nat) : Int) from rfl, a.1, IntWalk.wrap64_in _ (by omega)]
  omega
theorem seal_list (s : ByteArray) : (sealP s).data.toList = (putL (sumP s) 4).map byteOf ++ s.data.toList := by
  unfold sealP
  simp only [ByteArray.data_append, Array.toList_append, strOf_list]
theorem seal_size (s : ByteArray) : (sealP s).size = 4 + s.size := by
  have h := congrArg List.length (seal_list s)
  simp only [List.length_append, List.length_map, putL_len, str_len] at h
  omega
theorem seal_get (s : ByteArray) : getP (sealP s) 0 4 = (sumP s, true) := by
  have hz := seal_size s
  have hr := sumP_range s
  unfold getP
  rw [if_pos (by omega)]
  have b : ∀ i : Nat, i < 4 → byteAt (sealP s) ((0 : Int) + i).toNat = byteAt (strOfNums (putL (sumP s) 4)) ((0 : Int) + i).toNat := by
    intro i hi
    rw [byteAt_list, byteAt_list, seal_list, strOf_list, show ((0 : Int) + i).toNat = i by omega]
    rw [List.getD_eq_getElem?_getD, List.getD_eq_getElem?_getD, List.getElem?_append_left (by rw [List.length_map, putL_len]; omega)]
  have e : numU (sealP s) 0 (4 : Int).toNat = numU (strOfNums (putL (sumP s) 4)) 0 4 := by
    show stepU (stepU (stepU (stepU 0 _) _) _) _ = stepU (stepU (stepU (stepU 0 _) _) _) _
    rw [b 0 (by omega), b 1 (by omega), b 2 (by omega), b 3 (by omega)]
  rw [e, got _ 4 (by omega)]
  have : sumP s % 256 ^ 4 = sumP s := by omega
  rw [this, IntWalk.wrap64_in _ (by omega)]
theorem seal_cut (s : ByteArray) : (sealP s).extract 4 (sealP s).size = s := by
  have hz := seal_size s
  have hl := str_len s
  have hp : ((putL (sumP s) 4).map byteOf).length = 4 := by rw [List.length_map, putL_len]
  have hb := seal_list s
  apply ByteArray.ext
  rw [ByteArray.data_extract]
  apply Array.ext'
  rw [Array.toList_extract, hb, hz]
  generalize (putL (sumP s) 4).map byteOf = p at *
  rw [List.extract_eq_take_drop, show (4 : Nat) = p.length by omega, List.drop_left, Nat.add_sub_cancel_left]
  exact List.take_of_length_le (by omega)
theorem open_seal (s : ByteArray) : openP (sealP s) = (s, true) := by
  unfold openP
  rw [seal_get, seal_cut]
  simp
set_option maxHeartbeats 2000000 in
theorem sums_w (s : ByteArray) (hs : s.size ≤ 1048576) (w : World) (hT : TabW w) :
    Calls Tryd.prog 6 #[.string s] w fun e w' => e = .returned (.bool true) ∧ Below w.heap.size w w' := by
  have HT := hide hT
  clear hT
  have t1 : ∀ b : Bool, (b == b) = true := fun b => by cases b <;> rfl
  have t2 : ∀ x : Int, decide (x = x) = true := fun x => by simp
  have t3 : ∀ x : Int, (x == x) = true := fun x => by simp
  have q1 := fun W => open_c s (by omega) W
  have q2 := fun W => ropen_c s (by omega) W
  have q3 := fun W => seal_c s (by omega) W
  have q4 := fun W => open_c (sealP s) (by rw [seal_size]; omega) W
  have q5 := fun W => sum_c s (by omega) W
  have q6 := fun W => rsumS_c s (by omega) W
  have q7 := fun W => rseal_c s (by omega) W
  rw [open_seal] at q4
  generalize openP s = p at *
  obtain ⟨x, ok⟩ := p
  generalize sealP s = t at *
  generalize sumP s = n at *
  have Q1 := hide q1
  have Q2 := hide q2
  have Q3 := hide q3
  have Q4 := hide q4
  have Q5 := hide q5
  have Q6 := hide q6
  have Q7 := hide q7
  clear q1 q2 q3 q4 q5 q6 q7 hs
  go_enter Tryd.func6, Tryd.ntmps6
  go_wp2_with fail
  refine (Q1.out _ HT.out).mono ?_
  rintro e w' ⟨rfl, rfl⟩
  go_wp2_with fail
  refine (Q2.out _).mono ?_
  rintro e w' ⟨rfl, rfl⟩
  go_wp2_with fail
  refine (Q3.out _ HT.out).mono ?_
  rintro e w1 ⟨rfl, hb1⟩
  have HT1 := hide (HT.out.keep hb1)
  go_wp2_with fail
  refine (Q4.out _ HT1.out).mono ?_
  rintro e w' ⟨rfl, rfl⟩
  go_wp2_with fail
  refine (awake_c _ HT1.out).mono ?_
  rintro e w2 ⟨rfl, hb2⟩
  have HT2 := hide (HT1.out.keep hb2)
  go_wp2_with fail
  refine (Q5.out _ HT2.out).mono ?_
  rintro e w' ⟨rfl, rfl⟩
  go_wp2_with fail
  refine (Q6.out _).mono ?_
  rintro e w' ⟨rfl, rfl⟩
  go_wp2_with fail
  refine (Q3.out _ HT2.out).mono ?_
  rintro e w3 ⟨rfl, hb3⟩
  go_wp2_with fail
  refine (Q7.out _).mono ?_
  rintro e w4 ⟨rfl, hb4⟩
  go_wp2_with fail
  go_ret
  exact ⟨rfl, Bel.then (Bel.then (Bel.then hb1 hb2) hb3) hb4⟩
end Go.Proofs.YtlfgfjljddjncaaDoor

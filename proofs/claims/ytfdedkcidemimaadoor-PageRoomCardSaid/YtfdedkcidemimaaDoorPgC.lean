/- Pages: Get, SetLsn, SetLink. -/
import Derived.Test.YtfdedkcidemimaaDoorPgB
import Derived.Test.YtfdedkcidemimaaDoorLibAll
namespace Go.Proofs.YtfdedkcidemimaaDoor
set_option linter.unusedVariables false
open Go.ChangeShapes Go.WideShapes Go.ChangeAt Go.RowKit

theorem getS_no {p : ByteArray} {s : Int} (h : ¬ (rightB p = true ∧ 0 ≤ s ∧ s.toNat < shN p 15 ∧ shN p (21 + 4 * s.toNat) ≠ 0)) : getS p s = (⟨#[]⟩, false) := by unfold getS; rw [if_neg h]
theorem getpage_c (p : ByteArray) (s : Int) (hm : p.size ≤ 4000) (w : World) : Calls Tryd.prog 10 #[.string p, .int .i64 s] w fun e w' => e = .returned (.tuple #[.string (getS p s).1, .bool (getS p s).2]) ∧ Below w.heap.size w w' := by
  cases hr : rightB p with
  | false =>
    have Q := hide (right_q p hm hr)
    rw [getS_no (by rw [hr]; simp)]
    clear hr
    go_enter Tryd.func10, Tryd.ntmps10
    go_wp2_with fail
    refine (Q.out _).mono ?_
    rintro e w4 ⟨rfl, hb⟩
    go_wp2_with fail
    go_ret2
    exact ⟨rfl, hb⟩
  | true =>
    have Q := hide (right_q p hm hr)
    by_cases h0 : s < 0
    · rw [getS_no (by omega)]
      clear hr
      go_enter Tryd.func10, Tryd.ntmps10
      go_wp2_with fail
      refine (Q.out _).mono ?_
      rintro e w4 ⟨rfl, hb⟩
      go_wp2_with fail
      go_ret2
      exact ⟨rfl, hb⟩
    · obtain ⟨k, rfl⟩ : ∃ k : Nat, s = k := ⟨s.toNat, by omega⟩
      have R := hide ((rightP_iff p).mp hr)
      have Q2 := hide (fun W => short_b p 15 (by have := R.out.size; omega) hm W)
      by_cases hk : k < shN p 15
      · have hk2 : ¬ ((shN p 15 : Nat) : Int) ≤ (k : Int) := by omega
        have Q3 := hide (fun W => place_c p k (R.out.near hk) hm W)
        have hsl := R.out.slot hk
        have hsz : p.size = 512 := R.out.size
        by_cases hz : shN p (21 + 4 * k) = 0
        · rw [getS_no (by rw [Int.toNat_natCast]; exact fun h => h.2.2.2 hz)]
          rw [hz] at Q3
          generalize shN p (19 + 4 * k) = a at *
          generalize shN p 15 = n at *
          clear hr R hsl hz
          go_enter Tryd.func10, Tryd.ntmps10
          go_wp2_with fail
          refine (Q.out _).mono ?_
          rintro e w4 ⟨rfl, hb⟩
          have HB := hide hb
          clear hb
          go_wp2_with fail
          refine (Q2.out _).mono ?_
          rintro e w5 ⟨rfl, hb⟩
          replace HB := hide (Bel.then HB.out hb)
          clear hb
          go_wp2_with fail
          refine (Q3.out _).mono ?_
          rintro e w6 ⟨rfl, hb⟩
          replace HB := hide (Bel.then HB.out hb)
          clear hb
          go_wp2_with fail
          go_ret2
          exact ⟨rfl, HB.out⟩
        · have hv : getS p (k : Int) = (recAt p k, true) := by unfold getS; rw [if_pos ⟨hr, by omega, by rw [Int.toNat_natCast]; exact hk, by rw [Int.toNat_natCast]; exact hz⟩, Int.toNat_natCast]
          rw [hv]
          unfold recAt
          generalize shN p (19 + 4 * k) = a at *
          generalize shN p (21 + 4 * k) = z at *
          generalize shN p 15 = n at *
          obtain ⟨ab, hab⟩ : ∃ ab, a + z = ab := ⟨_, rfl⟩
          have f1 : ((z : Int) == 0) = false := by simp; omega
          have w1 : IntKind.i64.wrap ((a : Int) + (z : Int)) = (ab : Int) := by rw [IntWalk.i64_in _ (by omega)]; omega
          have s1 := fun W => cut_str p a ab (by omega) (by omega) W
          rw [hab]
          generalize p.extract a ab = x at *
          clear hr R hsl hz hab hv
          go_enter Tryd.func10, Tryd.ntmps10
          go_wp2_with fail
          refine (Q.out _).mono ?_
          rintro e w4 ⟨rfl, hb⟩
          have HB := hide hb
          clear hb
          go_wp2_with fail
          refine (Q2.out _).mono ?_
          rintro e w5 ⟨rfl, hb⟩
          replace HB := hide (Bel.then HB.out hb)
          clear hb
          go_wp2_with fail
          refine (Q3.out _).mono ?_
          rintro e w6 ⟨rfl, hb⟩
          replace HB := hide (Bel.then HB.out hb)
          clear hb
          go_wp2_with fail
          go_ret2
          exact ⟨rfl, HB.out⟩
      · have hk2 : ((shN p 15 : Nat) : Int) ≤ (k : Int) := by omega
        rw [getS_no (by rw [Int.toNat_natCast]; exact fun h => hk h.2.2.1)]
        generalize shN p 15 = n at *
        clear hr R
        go_enter Tryd.func10, Tryd.ntmps10
        go_wp2_with fail
        refine (Q.out _).mono ?_
        rintro e w4 ⟨rfl, hb⟩
        have HB := hide hb
        clear hb
        go_wp2_with fail
        refine (Q2.out _).mono ?_
        rintro e w5 ⟨rfl, hb⟩
        replace HB := hide (Bel.then HB.out hb)
        clear hb
        go_wp2_with fail
        go_ret2
        exact ⟨rfl, HB.out⟩
def setLsnS (p : ByteArray) (n : Int) : ByteArray := if rightB p = true ∧ 0 ≤ n ∧ n ≤ 281474976710655 then (⟨#[0, 0, 0, 0]⟩ ++ strOfNums (putL n 6)) ++ p.extract 10 p.size else ⟨#[]⟩
def setLinkS (p : ByteArray) (n : Int) : ByteArray := if rightB p = true ∧ 0 ≤ n ∧ n ≤ 16777215 then ((⟨#[0, 0, 0, 0]⟩ ++ p.extract 4 12) ++ strOfNums (putL n 3)) ++ p.extract 15 p.size else ⟨#[]⟩
theorem app_size (a b : ByteArray) : (a ++ b).size = a.size + b.size := ByteArray.size_append
set_option maxHeartbeats 2000000 in
theorem setLsn_c (p : ByteArray) (n : Int) (hm : p.size ≤ 4000) (w : World) : Calls Tryd.prog 32 #[.string p, .int .i64 n] w fun e w' => e = .returned (.string (setLsnS p n)) ∧ Below w.heap.size w w' := by
  cases hr : rightB p with
  | false =>
    have Q := hide (right_q p hm hr)
    have hv : setLsnS p n = ⟨#[]⟩ := by unfold setLsnS; rw [if_neg (by rw [hr]; simp)]
    rw [hv]
    clear hr hv
    go_enter Tryd.func32, Tryd.ntmps32
    go_wp2_with fail
    refine (Q.out _).mono ?_
    rintro e w4 ⟨rfl, hb⟩
    go_wp2_with fail
    go_ret
    exact ⟨rfl, hb⟩
  | true =>
    have Q := hide (right_q p hm hr)
    have hsz : p.size = 512 := ((rightP_iff p).mp hr).size
    by_cases h0 : n < 0
    · have hv : setLsnS p n = ⟨#[]⟩ := by unfold setLsnS; rw [if_neg (by omega)]
      rw [hv]
      clear hr hv
      go_enter Tryd.func32, Tryd.ntmps32
      go_wp2_with fail
      refine (Q.out _).mono ?_
      rintro e w4 ⟨rfl, hb⟩
      go_wp2_with fail
      go_ret
      exact ⟨rfl, hb⟩
    · by_cases h1 : 281474976710655 < n
      · have hv : setLsnS p n = ⟨#[]⟩ := by unfold setLsnS; rw [if_neg (by omega)]
        rw [hv]
        clear hr hv
        go_enter Tryd.func32, Tryd.ntmps32
        go_wp2_with fail
        refine (Q.out _).mono ?_
        rintro e w4 ⟨rfl, hb⟩
        go_wp2_with fail
        go_ret
        exact ⟨rfl, hb⟩
      · have hv : setLsnS p n = (⟨#[0, 0, 0, 0]⟩ ++ strOfNums (putL n 6)) ++ p.extract 10 p.size := by unfold setLsnS; rw [if_pos ⟨hr, by omega, by omega⟩]
        rw [hv, hsz]
        have Q2 := hide (fun W => put6 n W)
        have hx : (strOfNums (putL n 6)).size = 6 := by rw [strOf_size, putL_len]
        have hy : (p.extract 10 512).size = 502 := by rw [ByteArray.size_extract]; omega
        have h10 : (10 : Int) ≤ p.size := by omega
        generalize strOfNums (putL n 6) = x at *
        have hz : ((⟨#[0, 0, 0, 0]⟩ ++ x : ByteArray)).size = 10 := by rw [app_size, hx]; rfl
        have e1 : ¬ 9223372036854775807 < (⟨#[0, 0, 0, 0]⟩ : ByteArray).size + x.size := by rw [hx]; decide
        clear hr hv
        go_enter Tryd.func32, Tryd.ntmps32
        go_wp2_with fail
        refine (Q.out _).mono ?_
        rintro e w4 ⟨rfl, hb⟩
        have HB := hide hb
        clear hb
        go_upto_region 3 with (fail)
        refine wp_region_held_drew (S := (fun w' => Below w.heap.size w w')) (by kernel_rfl) (HB.out.drew) (fun hHeld => ?_)
        first | (refine wpAnyH_take (i := 0) (v := ?_) nth0 (by kernel_rfl) (by kernel_rfl) (by kernel_rfl) (fun _ _ _ h => h) (Or.inl ⟨by rfl, ?_⟩) hHeld ?_; rotate_left; focus (intro wS hSw; go_simp; try with_reducible rfl; done)) | (refine wpAnyH_take (i := 0) (v := undef) nth0 (by kernel_rfl) (by kernel_rfl) (by kernel_rfl) (fun _ _ _ h => h) (Or.inr ⟨by rfl, rfl⟩) hHeld ?_)
        (try simp only [Act.put]); (try simp only [List.setIfInBounds_toArray]); (try simp only [List.set_cons_succ]); (try simp only [List.set_cons_zero])
        first | (refine wpAnyH_take (i := 3) (v := ?_) nth3 (by kernel_rfl) (by kernel_rfl) (by kernel_rfl) (fun _ _ _ h => h) (Or.inl ⟨by rfl, ?_⟩) hHeld ?_; rotate_left; focus (intro wS hSw; go_simp; try with_reducible rfl; done)) | (refine wpAnyH_take (i := 3) (v := undef) nth3 (by kernel_rfl) (by kernel_rfl) (by kernel_rfl) (fun _ _ _ h => h) (Or.inr ⟨by rfl, rfl⟩) hHeld ?_)
        (try simp only [Act.put]); (try simp only [List.setIfInBounds_toArray]); (try simp only [List.set_cons_succ]); (try simp only [List.set_cons_zero])
        first | (refine wpAnyH_take (i := 4) (v := ?_) nth4 (by kernel_rfl) (by kernel_rfl) (by kernel_rfl) (fun _ _ _ h => h) (Or.inl ⟨by rfl, ?_⟩) hHeld ?_; rotate_left; focus (intro wS hSw; go_simp; try with_reducible rfl; done)) | (refine wpAnyH_take (i := 4) (v := undef) nth4 (by kernel_rfl) (by kernel_rfl) (by kernel_rfl) (fun _ _ _ h => h) (Or.inr ⟨by rfl, rfl⟩) hHeld ?_)
        (try simp only [Act.put]); (try simp only [List.setIfInBounds_toArray]); (try simp only [List.set_cons_succ]); (try simp only [List.set_cons_zero])
        refine wpAnyH_ready (rs := [1]) (by kernel_rfl) (by simp) ?_
        refine AllReadyH.cons nth1 (fun K hK => ?_) AllReadyH.nil
        go_simp
        (refine (Q2.out _).mono ?_; rintro e w' ⟨rfl, hb⟩)
        refine hK.out _ _ (Bel.then hHeld hb) (fun hHeld => ?_)
        clear hK K
        (try simp only [Act.put]); (try simp only [List.setIfInBounds_toArray]); (try simp only [List.set_cons_succ]); (try simp only [List.set_cons_zero])
        first | (refine wpAnyH_take (i := 2) (v := ?_) nth2 (by kernel_rfl) (by kernel_rfl) (by kernel_rfl) (fun _ _ _ h => h) (Or.inl ⟨by rfl, ?_⟩) hHeld ?_; rotate_left; focus (intro wS hSw; go_simp; try with_reducible rfl; done)) | (refine wpAnyH_take (i := 2) (v := undef) nth2 (by kernel_rfl) (by kernel_rfl) (by kernel_rfl) (fun _ _ _ h => h) (Or.inr ⟨by rfl, rfl⟩) hHeld ?_)
        (try simp only [Act.put]); (try simp only [List.setIfInBounds_toArray]); (try simp only [List.set_cons_succ]); (try simp only [List.set_cons_zero])
        first | (refine wpAnyH_take (i := 5) (v := ?_) nth5 (by kernel_rfl) (by kernel_rfl) (by kernel_rfl) (fun _ _ _ h => h) (Or.inl ⟨by rfl, ?_⟩) hHeld ?_; rotate_left; focus (intro wS hSw; go_simp; try with_reducible rfl; done)) | (refine wpAnyH_take (i := 5) (v := undef) nth5 (by kernel_rfl) (by kernel_rfl) (by kernel_rfl) (fun _ _ _ h => h) (Or.inr ⟨by rfl, rfl⟩) hHeld ?_)
        (try simp only [Act.put]); (try simp only [List.setIfInBounds_toArray]); (try simp only [List.set_cons_succ]); (try simp only [List.set_cons_zero])
        first | (refine wpAnyH_take (i := 6) (v := ?_) nth6 (by kernel_rfl) (by kernel_rfl) (by kernel_rfl) (fun _ _ _ h => h) (Or.inl ⟨by rfl, ?_⟩) hHeld ?_; rotate_left; focus (intro wS hSw; go_simp; try with_reducible rfl; done)) | (refine wpAnyH_take (i := 6) (v := undef) nth6 (by kernel_rfl) (by kernel_rfl) (by kernel_rfl) (fun _ _ _ h => h) (Or.inr ⟨by rfl, rfl⟩) hHeld ?_)
        (try simp only [Act.put]); (try simp only [List.setIfInBounds_toArray]); (try simp only [List.set_cons_succ]); (try simp only [List.set_cons_zero])
        refine wpAnyH_done (by kernel_rfl) ?_ _
        go_wp2_with fail
        go_ret
        exact ⟨rfl, hHeld⟩
set_option maxHeartbeats 2000000 in
theorem setLink_c (p : ByteArray) (n : Int) (hm : p.size ≤ 4000) (w : World) : Calls Tryd.prog 34 #[.string p, .int .i64 n] w fun e w' => e = .returned (.string (setLinkS p n)) ∧ Below w.heap.size w w' := by
  cases hr : rightB p with
  | false =>
    have Q := hide (right_q p hm hr)
    have hv : setLinkS p n = ⟨#[]⟩ := by unfold setLinkS; rw [if_neg (by rw [hr]; simp)]
    rw [hv]
    clear hr hv
    go_enter Tryd.func34, Tryd.ntmps34
    go_wp2_with fail
    refine (Q.out _).mono ?_
    rintro e w4 ⟨rfl, hb⟩
    go_wp2_with fail
    go_ret
    exact ⟨rfl, hb⟩
  | true =>
    have Q := hide (right_q p hm hr)
    have hsz : p.size = 512 := ((rightP_iff p).mp hr).size
    by_cases h0 : n < 0
    · have hv : setLinkS p n = ⟨#[]⟩ := by unfold setLinkS; rw [if_neg (by omega)]
      rw [hv]
      clear hr hv
      go_enter Tryd.func34, Tryd.ntmps34
      go_wp2_with fail
      refine (Q.out _).mono ?_
      rintro e w4 ⟨rfl, hb⟩
      go_wp2_with fail
      go_ret
      exact ⟨rfl, hb⟩
    · by_cases h1 : 16777215 < n
      · have hv : setLinkS p n = ⟨#[]⟩ := by unfold setLinkS; rw [if_neg (by omega)]
        rw [hv]
        clear hr hv
        go_enter Tryd.func34, Tryd.ntmps34
        go_wp2_with fail
        refine (Q.out _).mono ?_
        rintro e w4 ⟨rfl, hb⟩
        go_wp2_with fail
        go_ret
        exact ⟨rfl, hb⟩
      · have hv : setLinkS p n = ((⟨#[0, 0, 0, 0]⟩ ++ p.extract 4 12) ++ strOfNums (putL n 3)) ++ p.extract 15 p.size := by unfold setLinkS; rw [if_pos ⟨hr, by omega, by omega⟩]
        rw [hv, hsz]
        have Q2 := hide (fun W => put3 n W)
        have hx : (strOfNums (putL n 3)).size = 3 := by rw [strOf_size, putL_len]
        have hy : (p.extract 15 512).size = 497 := by rw [ByteArray.size_extract]; omega
        have hu : (p.extract 4 12).size = 8 := by rw [ByteArray.size_extract]; omega
        have h15 : (15 : Int) ≤ p.size := by omega
        have h12 : (12 : Int) ≤ p.size := by omega
        generalize strOfNums (putL n 3) = x at *
        have hz : ((⟨#[0, 0, 0, 0]⟩ ++ p.extract 4 12 : ByteArray)).size = 12 := by rw [app_size, hu]; rfl
        have hz2 : ((⟨#[0, 0, 0, 0]⟩ ++ p.extract 4 12 ++ x : ByteArray)).size = 15 := by rw [app_size, hz, hx]
        clear hr hv
        go_enter Tryd.func34, Tryd.ntmps34
        go_wp2_with fail
        refine (Q.out _).mono ?_
        rintro e w4 ⟨rfl, hb⟩
        have HB := hide hb
        clear hb
        go_upto_region 3 with (fail)
        refine wp_region_held_drew (S := (fun w' => Below w.heap.size w w')) (by kernel_rfl) (HB.out.drew) (fun hHeld => ?_)
        first | (refine wpAnyH_take (i := 0) (v := ?_) nth0 (by kernel_rfl) (by kernel_rfl) (by kernel_rfl) (fun _ _ _ h => h) (Or.inl ⟨by rfl, ?_⟩) hHeld ?_; rotate_left; focus (intro wS hSw; go_simp; try with_reducible rfl; done)) | (refine wpAnyH_take (i := 0) (v := undef) nth0 (by kernel_rfl) (by kernel_rfl) (by kernel_rfl) (fun _ _ _ h => h) (Or.inr ⟨by rfl, rfl⟩) hHeld ?_)
        (try simp only [Act.put]); (try simp only [List.setIfInBounds_toArray]); (try simp only [List.set_cons_succ]); (try simp only [List.set_cons_zero])
        first | (refine wpAnyH_take (i := 1) (v := ?_) nth1 (by kernel_rfl) (by kernel_rfl) (by kernel_rfl) (fun _ _ _ h => h) (Or.inl ⟨by rfl, ?_⟩) hHeld ?_; rotate_left; focus (intro wS hSw; go_simp; try with_reducible rfl; done)) | (refine wpAnyH_take (i := 1) (v := undef) nth1 (by kernel_rfl) (by kernel_rfl) (by kernel_rfl) (fun _ _ _ h => h) (Or.inr ⟨by rfl, rfl⟩) hHeld ?_)
        (try simp only [Act.put]); (try simp only [List.setIfInBounds_toArray]); (try simp only [List.set_cons_succ]); (try simp only [List.set_cons_zero])
        first | (refine wpAnyH_take (i := 2) (v := ?_) nth2 (by kernel_rfl) (by kernel_rfl) (by kernel_rfl) (fun _ _ _ h => h) (Or.inl ⟨by rfl, ?_⟩) hHeld ?_; rotate_left; focus (intro wS hSw; go_simp; try with_reducible rfl; done)) | (refine wpAnyH_take (i := 2) (v := undef) nth2 (by kernel_rfl) (by kernel_rfl) (by kernel_rfl) (fun _ _ _ h => h) (Or.inr ⟨by rfl, rfl⟩) hHeld ?_)
        (try simp only [Act.put]); (try simp only [List.setIfInBounds_toArray]); (try simp only [List.set_cons_succ]); (try simp only [List.set_cons_zero])
        first | (refine wpAnyH_take (i := 3) (v := ?_) nth3 (by kernel_rfl) (by kernel_rfl) (by kernel_rfl) (fun _ _ _ h => h) (Or.inl ⟨by rfl, ?_⟩) hHeld ?_; rotate_left; focus (intro wS hSw; go_simp; try with_reducible rfl; done)) | (refine wpAnyH_take (i := 3) (v := undef) nth3 (by kernel_rfl) (by kernel_rfl) (by kernel_rfl) (fun _ _ _ h => h) (Or.inr ⟨by rfl, rfl⟩) hHeld ?_)
        (try simp only [Act.put]); (try simp only [List.setIfInBounds_toArray]); (try simp only [List.set_cons_succ]); (try simp only [List.set_cons_zero])
        first | (refine wpAnyH_take (i := 6) (v := ?_) nth6 (by kernel_rfl) (by kernel_rfl) (by kernel_rfl) (fun _ _ _ h => h) (Or.inl ⟨by rfl, ?_⟩) hHeld ?_; rotate_left; focus (intro wS hSw; go_simp; try with_reducible rfl; done)) | (refine wpAnyH_take (i := 6) (v := undef) nth6 (by kernel_rfl) (by kernel_rfl) (by kernel_rfl) (fun _ _ _ h => h) (Or.inr ⟨by rfl, rfl⟩) hHeld ?_)
        (try simp only [Act.put]); (try simp only [List.setIfInBounds_toArray]); (try simp only [List.set_cons_succ]); (try simp only [List.set_cons_zero])
        first | (refine wpAnyH_take (i := 7) (v := ?_) nth7 (by kernel_rfl) (by kernel_rfl) (by kernel_rfl) (fun _ _ _ h => h) (Or.inl ⟨by rfl, ?_⟩) hHeld ?_; rotate_left; focus (intro wS hSw; go_simp; try with_reducible rfl; done)) | (refine wpAnyH_take (i := 7) (v := undef) nth7 (by kernel_rfl) (by kernel_rfl) (by kernel_rfl) (fun _ _ _ h => h) (Or.inr ⟨by rfl, rfl⟩) hHeld ?_)
        (try simp only [Act.put]); (try simp only [List.setIfInBounds_toArray]); (try simp only [List.set_cons_succ]); (try simp only [List.set_cons_zero])
        refine wpAnyH_ready (rs := [4]) (by kernel_rfl) (by simp) ?_
        refine AllReadyH.cons nth4 (fun K hK => ?_) AllReadyH.nil
        go_simp
        (refine (Q2.out _).mono ?_; rintro e w' ⟨rfl, hb⟩)
        refine hK.out _ _ (Bel.then hHeld hb) (fun hHeld => ?_)
        clear hK K
        (try simp only [Act.put]); (try simp only [List.setIfInBounds_toArray]); (try simp only [List.set_cons_succ]); (try simp only [List.set_cons_zero])
        first | (refine wpAnyH_take (i := 5) (v := ?_) nth5 (by kernel_rfl) (by kernel_rfl) (by kernel_rfl) (fun _ _ _ h => h) (Or.inl ⟨by rfl, ?_⟩) hHeld ?_; rotate_left; focus (intro wS hSw; go_simp; try with_reducible rfl; done)) | (refine wpAnyH_take (i := 5) (v := undef) nth5 (by kernel_rfl) (by kernel_rfl) (by kernel_rfl) (fun _ _ _ h => h) (Or.inr ⟨by rfl, rfl⟩) hHeld ?_)
        (try simp only [Act.put]); (try simp only [List.setIfInBounds_toArray]); (try simp only [List.set_cons_succ]); (try simp only [List.set_cons_zero])
        first | (refine wpAnyH_take (i := 8) (v := ?_) nth8 (by kernel_rfl) (by kernel_rfl) (by kernel_rfl) (fun _ _ _ h => h) (Or.inl ⟨by rfl, ?_⟩) hHeld ?_; rotate_left; focus (intro wS hSw; go_simp; try with_reducible rfl; done)) | (refine wpAnyH_take (i := 8) (v := undef) nth8 (by kernel_rfl) (by kernel_rfl) (by kernel_rfl) (fun _ _ _ h => h) (Or.inr ⟨by rfl, rfl⟩) hHeld ?_)
        (try simp only [Act.put]); (try simp only [List.setIfInBounds_toArray]); (try simp only [List.set_cons_succ]); (try simp only [List.set_cons_zero])
        first | (refine wpAnyH_take (i := 9) (v := ?_) nth9 (by kernel_rfl) (by kernel_rfl) (by kernel_rfl) (fun _ _ _ h => h) (Or.inl ⟨by rfl, ?_⟩) hHeld ?_; rotate_left; focus (intro wS hSw; go_simp; try with_reducible rfl; done)) | (refine wpAnyH_take (i := 9) (v := undef) nth9 (by kernel_rfl) (by kernel_rfl) (by kernel_rfl) (fun _ _ _ h => h) (Or.inr ⟨by rfl, rfl⟩) hHeld ?_)
        (try simp only [Act.put]); (try simp only [List.setIfInBounds_toArray]); (try simp only [List.set_cons_succ]); (try simp only [List.set_cons_zero])
        refine wpAnyH_done (by kernel_rfl) ?_ _
        go_wp2_with fail
        go_ret
        exact ⟨rfl, hHeld⟩
end Go.Proofs.YtfdedkcidemimaaDoor

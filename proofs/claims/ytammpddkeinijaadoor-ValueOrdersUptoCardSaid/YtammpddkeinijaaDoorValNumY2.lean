/- The reference's text of numbers of two digits and more. -/
import Derived.Test.YtammpddkeinijaaDoorValNumY
import Derived.Lib.ItoaLen
namespace Go.Proofs.YtammpddkeinijaaDoor
set_option linter.unusedVariables false
open Go.ChangeShapes Go.WideShapes Go.ChangeAt Go.RowKit

theorem ret_str {s t : ByteArray} (h : s = t) : Ending.returned (.string s) = Ending.returned (.string t) := by rw [h]
theorem str_app (s : ByteArray) (x : UInt8) : s ++ { data := #[x] } = { data := (s.data.toList ++ [x]).toArray } := by
  apply ByteArray.ext
  simp only [ByteArray.data_append]
  apply Array.ext'
  simp
theorem wr (n : Int) (h0 : -9223372036854775808 ≤ n) (h1 : n ≤ 9223372036854775807) : IntKind.i64.wrap n = n := IntWalk.i64_in n ⟨h0, h1⟩
set_option maxHeartbeats 400000 in
theorem rtext_pos (n : Int) (s : ByteArray) (h0 : 10 ≤ n) (hhi : n ≤ 9223372036854775807) (w : World)
   (ih : ∀ w, Calls Tryd.prog 44 #[.int .i64 (n / 10)] w fun e w' => e = .returned (.string s) ∧ ∃ k, w' = w.drewN k) (hs : (s.size : Int) ≤ 8388608) (hs2 : s.data.toList = Lib.itoa (n / 10)) (hq : IntKind.wrap .i64 (n.tdiv 10) = n / 10) :
    Calls Tryd.prog 44 #[.int .i64 n] w fun e w' => e = .returned (.string ⟨(Lib.itoa n).toArray⟩) ∧ ∃ k, w' = w.drewN k := by
  rw [itoa_pos n h0, ← hs2]
  clear hs2
  have d0 : 0 ≤ n % 10 := by omega
  have d1 : n % 10 < 10 := by omega
  have hp := pick_c (n % 10) (n % 10 + 1) d0 d1 rfl
  have h2 : 0 ≤ n := by omega
  have hw := wr (n % 10 + 1) (by omega) (by omega)
  generalize n / 10 = q at *
  generalize dig (n % 10) = x at *
  have IH := hide ih
  clear ih
  go_enter Tryd.func44, Tryd.ntmps44
  go_wp2_with fail
  go_quiet ((go_at_call 44; exact Calls.quiet_of (IH.out _)))
  go_wp2_with fail
  go_ret
  exact ⟨ret_str (str_app s _), _, rfl⟩
set_option maxHeartbeats 400000 in
theorem rtext_below (n : Int) (s : ByteArray) (h0 : n ≤ -10) (hlo : -9223372036854775808 ≤ n) (w : World)
   (ih : ∀ w, Calls Tryd.prog 44 #[.int .i64 (n.tdiv 10)] w fun e w' => e = .returned (.string s) ∧ ∃ k, w' = w.drewN k) (hs : (s.size : Int) ≤ 8388608) (hs2 : s.data.toList = Lib.itoa (n.tdiv 10)) (hq : IntKind.wrap .i64 (n.tdiv 10) = n.tdiv 10) :
    Calls Tryd.prog 44 #[.int .i64 n] w fun e w' => e = .returned (.string ⟨(Lib.itoa n).toArray⟩) ∧ ∃ k, w' = w.drewN k := by
  rw [itoa_neg n h0, ← hs2]
  clear hs2
  have d0 : n.tmod 10 ≤ 0 := by rw [show n.tmod 10 = -((-n) % 10) by rw [← Int.tmod_eq_emod_of_nonneg (by omega), Int.neg_tmod]; omega]; omega
  have d1 : -10 < n.tmod 10 := by rw [show n.tmod 10 = -((-n) % 10) by rw [← Int.tmod_eq_emod_of_nonneg (by omega), Int.neg_tmod]; omega]; omega
  have h2 : n < 0 := by omega
  have IH := hide ih
  clear ih
  rcases (show n.tmod 10 < 0 ∨ n.tmod 10 = 0 by omega) with hd | hd
  · have hp := pick_c (-n.tmod 10) (-n.tmod 10 + 1) (by omega) (by omega) rfl
    have hw := wr (-n.tmod 10 + 1) (by omega) (by omega)
    generalize dig (-n.tmod 10) = x at *
    have h3 : -9223372036854775808 ≤ n.tmod 10 := by omega
    have h4 : n.tmod 10 ≤ 9223372036854775807 := by omega
    go_enter Tryd.func44, Tryd.ntmps44
    go_wp2_with fail
    go_quiet ((go_at_call 44; exact Calls.quiet_of (IH.out _)))
    go_wp2_with fail
    go_ret
    exact ⟨ret_str (str_app s _), _, rfl⟩
  · rw [hd]
    have hp := pick_c 0 1 (by omega) (by omega) rfl
    have hw := wr 1 (by omega) (by omega)
    go_enter Tryd.func44, Tryd.ntmps44
    go_wp2_with fail
    go_quiet ((go_at_call 44; exact Calls.quiet_of (IH.out _)))
    go_wp2_with fail
    go_ret
    exact ⟨ret_str (str_app s _), _, rfl⟩
theorem itoa_size (n : Int) (hlo : -9223372036854775808 ≤ n) (hhi : n ≤ 9223372036854775807) : ((⟨(Lib.itoa n).toArray⟩ : ByteArray).size : Int) ≤ 8388608 := by
  have := Lib.itoa_length_le n hlo hhi
  simp only [ByteArray.size, List.size_toArray]
  omega
theorem rtext_c (n : Int) (hlo : -9223372036854775808 ≤ n) (hhi : n ≤ 9223372036854775807) (w : World) :
    Calls Tryd.prog 44 #[.int .i64 n] w fun e w' => e = .returned (.string ⟨(Lib.itoa n).toArray⟩) ∧ ∃ k, w' = w.drewN k := by
  generalize hm : n.natAbs = m
  induction m using Nat.strongRecOn generalizing n w with
  | ind m ih =>
    subst hm
    by_cases h0 : 0 ≤ n
    · by_cases h1 : n < 10
      · exact (rtext_small n h0 h1 w).mono fun _ _ h => ⟨h.1, 0, h.2.symm⟩
      · exact rtext_pos n _ (by omega) hhi w (fun w => ih (n / 10).natAbs (by omega) (n / 10) (by omega) (by omega) w rfl) (itoa_size _ (by omega) (by omega)) rfl (by rw [Int.tdiv_eq_ediv_of_nonneg (by omega)]; exact wr _ (by omega) (by omega))
    · by_cases h1 : -10 < n
      · exact (rtext_neg n (by omega) h1 w).mono fun _ _ h => ⟨h.1, 0, h.2.symm⟩
      · have e1 : n.tdiv 10 = -((-n) / 10) := by rw [← Int.tdiv_eq_ediv_of_nonneg (by omega), Int.neg_tdiv]; omega
        exact rtext_below n _ (by omega) hlo w (fun w => ih (n.tdiv 10).natAbs (by rw [e1]; omega) (n.tdiv 10) (by rw [e1]; omega) (by rw [e1]; omega) w rfl) (itoa_size _ (by rw [e1]; omega) (by rw [e1]; omega)) rfl (wr _ (by rw [e1]; omega) (by rw [e1]; omega))
end Go.Proofs.YtammpddkeinijaaDoor

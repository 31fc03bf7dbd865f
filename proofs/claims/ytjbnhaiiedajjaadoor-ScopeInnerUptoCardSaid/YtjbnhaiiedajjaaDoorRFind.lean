/- The contracts of the reference's Find and Ints. -/
import Derived.Test.YtjbnhaiiedajjaaDoorMeant
namespace Go.Proofs.YtjbnhaiiedajjaaDoor
set_option linter.unusedVariables false
open Go.ChangeShapes Go.WideShapes Go.ChangeAt Go.RowKit

set_option maxHeartbeats 1000000 in
theorem rfind_c (A : Option Addr) (N C : Nat) (env : List (List ColV)) (t n : ByteArray) (w : World) (h : EnvAt w w.heap.size A N C env) (hN : N ≤ 1048576) (hn : ∀ cs ∈ env, cs.length ≤ 1048576) :
    Calls Tryd.prog 8 #[.slice A N C, .string t, .string n] w fun e w' => e = .returned (.tuple #[.int .i64 (findF t n 0 env).1, .int .i64 (findF t n 0 env).2.1, .int .i64 (findF t n 0 env).2.2]) ∧ Below w.heap.size w w' := by
  have hm1 := h.cap
  have HE := hide h
  have HN := hide hn
  clear h hn
  go_enter Tryd.func8, Tryd.ntmps8
  go_wp2
  go_loopw [9] (fun i wr => ∃ k : Nat, k ≤ N ∧ i = .int .i64 k ∧ Hid (findF t n k (env.drop k) = findF t n 0 env ∧ Below w.heap.size w wr)) (fun i _ => N - (intOf i).toNat)
  case atStart => exact ⟨0, Nat.zero_le _, rfl, ⟨rfl, Below.refl _ _⟩⟩
  case round =>
    obtain ⟨k, hk, rfl, HR⟩ := hrel
    by_cases hlt : k < N
    · obtain ⟨b, off, A1, n1, c1, cs, rfl, hb, hcs, hcell, hcols⟩ := (HE.out.below HR.out.2).one hlt
      have hn1 := HN.out cs (List.mem_of_getElem? hcs)
      have hfr := HR.out.1.symm.trans (find_step t n hcs)
      have q := meant_c A1 n1 c1 cs t n wr (hcols.more HR.out.2.size) (by have := hcols.len; omega)
      generalize placesF (meansB t n) 0 cs = L at *
      have HF := hide hfr
      have Q := hide q
      clear hcols hcs hfr q hn1
      match L, HF, Q with
      | [], HF, Q =>
        go_wp2_with fail
        refine Q.out.mono ?_
        rintro e w1 ⟨X, cx, rfl, hX, hb1, hf1⟩
        have HB2 := hide (HR.out.2.trans (hb1.mono HR.out.2.size))
        clear hX hb1 hf1
        simp only [List.length_nil]
        go_wp2_with fail
        go_roundw
        case rel => exact ⟨k + 1, by omega, by go_num, ⟨HF.out.symm, HB2.out⟩⟩
        case measure => simp [intOf]; omega
      | [i], HF, Q =>
        go_wp2_with fail
        refine Q.out.mono ?_
        rintro e w1 ⟨X, cx, rfl, hX, hb1, hf1⟩
        have HB2 := hide (HR.out.2.trans (hb1.mono HR.out.2.size))
        obtain ⟨bx, ox, rfl, hbx, hcx⟩ := hX.at (by simp)
        have hc0 := hcx 0 (by simp)
        simp only [List.map_cons, List.getD_cons_zero, Nat.add_zero] at hc0
        clear hX hb1 hf1 hcx
        simp only [List.length_cons, List.length_nil, Nat.zero_add]
        go_wp2_with fail
        go_region
        go_wp2
        go_ret3
        refine ⟨?_, HB2.out.drew⟩
        rw [HF.out]
        rfl
      | i :: i2 :: r, HF, Q =>
        have hr : (1 : Int) < ((i :: i2 :: r).length : Int) := by simp; omega
        generalize (i :: i2 :: r).length = K at *
        go_wp2_with fail
        refine Q.out.mono ?_
        rintro e w1 ⟨X, cx, rfl, hX, hb1, hf1⟩
        have HB2 := hide (HR.out.2.trans (hb1.mono HR.out.2.size))
        have hr1 : ((K : Int) == 1) = false := by simp; omega
        clear hX hb1 hf1
        go_wp2_with fail
        go_ret3
        refine ⟨?_, HB2.out⟩
        rw [HF.out]
        rfl
    · have hfr := HR.out.1
      rw [List.drop_of_length_le (by have := HE.out.len; omega)] at hfr
      have HF := hide hfr.symm
      clear hfr
      go_wp2
      go_ret3
      refine ⟨?_, HR.out.2⟩
      rw [HF.out]
      rfl
/-- The two lists read as the same numbers. -/
theorem ints_c (A A2 : Option Addr) (N C C2 : Nat) (zs : List Int) (w : World) (h : Ints w w.heap.size A N zs) (h2 : Ints w w.heap.size A2 N zs) (hN : N ≤ 1048576) (hC : N ≤ C) (hC2 : N ≤ C2) :
    Calls Tryd.prog 14 #[.slice A N C, .slice A2 N C2] w fun e w' => e = .returned (.bool true) ∧ Below w.heap.size w w' := by
  have HI := hide h
  have HI2 := hide h2
  clear h h2
  go_enter Tryd.func14, Tryd.ntmps14
  go_wp2
  go_loopw [5] (fun i wr => ∃ k n : Nat, k ≤ N ∧ i = .int .i64 k ∧ wr = w.drewN n) (fun i _ => N - (intOf i).toNat)
  case atStart => exact ⟨0, 0, Nat.zero_le _, rfl, rfl⟩
  case round =>
    obtain ⟨k, m, hk, rfl, rfl⟩ := hrel
    by_cases hlt : k < N
    · obtain ⟨bx, ox, z, rfl, _, hx, _, HZ⟩ := HI.out.get hlt
      obtain ⟨byy, oy, z2, rfl, _, hy, _, HZ2⟩ := HI2.out.get hlt
      obtain rfl : z = z2 := by rw [← HZ.out, ← HZ2.out]
      have f1 : (z != z) = false := by simp
      go_wp2_with fail
      go_quiet (fail)
      go_wp2_with fail
      go_roundw
      case rel => exact ⟨k + 1, _, by omega, by go_num, rfl⟩
      case measure => simp [intOf]; omega
    · have hkn : k = N := by omega
      subst hkn
      go_wp2
      go_ret
      exact ⟨rfl, Bel.drewN (Below.refl _ _) _⟩
end Go.Proofs.YtjbnhaiiedajjaaDoor

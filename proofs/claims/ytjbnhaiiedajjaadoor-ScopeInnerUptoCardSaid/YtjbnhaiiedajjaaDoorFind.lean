/- The contract of scope.Find. -/
import Derived.Test.YtjbnhaiiedajjaaDoorRows
import Derived.Test.YtjbnhaiiedajjaaDoorScopeM
namespace Go.Proofs.YtjbnhaiiedajjaaDoor
set_option linter.unusedVariables false
open Go.ChangeShapes Go.WideShapes Go.ChangeAt Go.RowKit

set_option maxHeartbeats 1000000 in
theorem find_c (A : Option Addr) (N C : Nat) (env : List (List ColV)) (t n : ByteArray) (w : World) (h : EnvAt w w.heap.size A N C env) :
    Calls Tryd.prog 7 #[.slice A N C, .string t, .string n] w fun e w' => e = .returned (.tuple #[.int .i64 (findF t n 0 env).1, .int .i64 (findF t n 0 env).2.1, .int .i64 (findF t n 0 env).2.2]) ∧ Below w.heap.size w w' := by
  have hm1 := h.cap
  have hm2 := h.max
  unfold maxLen at hm2
  have HE := hide h
  clear h
  go_enter Tryd.func7, Tryd.ntmps7
  go_wp2
  go_loopw [17] (fun i wr => ∃ k : Nat, k ≤ N ∧ i = .int .i64 k ∧ Hid (findF t n k (env.drop k) = findF t n 0 env ∧ Below w.heap.size w wr)) (fun i _ => N - (intOf i).toNat)
  case atStart => exact ⟨0, Nat.zero_le _, rfl, ⟨rfl, Below.refl _ _⟩⟩
  case round =>
    obtain ⟨k, hk, rfl, HR⟩ := hrel
    by_cases hlt : k < N
    · obtain ⟨b, off, A1, n1, c1, cs, rfl, hb, hcs, hcell, hcols⟩ := (HE.out.below HR.out.2).one hlt
      have hcm1 := hcols.cap
      have hcm2 := hcols.max
      unfold maxLen at hcm2
      have HC := hide hcols
      have HCS := hide hcs
      clear hcols hcs
      go_wp2
      obtain ⟨wo, rfl⟩ : ∃ wo : World, wo = wr := ⟨_, rfl⟩
      go_loopw [11, 12, 24] (fun f p i wx => ∃ j : Nat, j ≤ n1 ∧ i = .int .i64 j ∧ f = .int .i64 (placesF (meansB t n) 0 (cs.take j)).length ∧ p = .int .i64 (lastN (placesF (meansB t n) 0 (cs.take j))) ∧ Hid (Below wo.heap.size wo wx)) (fun _ _ i _ => n1 - (intOf i).toNat)
      case atStart => exact ⟨0, Nat.zero_le _, rfl, rfl, rfl, Below.refl _ _⟩
      case round =>
        obtain ⟨j, hj, rfl, rfl, rfl, HB⟩ := hrel
        by_cases hjt : j < n1
        · obtain ⟨b2, off2, c, rfl, hb2, hc, hc0, hc1, hc2⟩ := ((HC.out.more HR.out.2.size).below HB.out).col hjt
          have hst := places_at (meansB t n) hc
          have hL : (placesF (meansB t n) 0 (cs.take j)).length ≤ j := Nat.le_trans (places_len _ _ _) (List.length_take_le _ _)
          generalize placesF (meansB t n) 0 (cs.take j) = L at *
          generalize hnx : placesF (meansB t n) 0 (cs.take (j + 1)) = L2 at *
          rcases (show (meansB t n c = false ∧ (c.nam.toList == n.toList) = false) ∨ (meansB t n c = true ∧ (c.nam.toList == n.toList) = true ∧ t.toList.isEmpty = true) ∨ (meansB t n c = true ∧ (c.nam.toList == n.toList) = true ∧ t.toList.isEmpty = false ∧ (c.tab.toList == t.toList) = true) ∨ (meansB t n c = false ∧ (c.nam.toList == n.toList) = true ∧ t.toList.isEmpty = false ∧ (c.tab.toList == t.toList) = false) by unfold meansB; cases (c.nam.toList == n.toList) <;> cases t.toList.isEmpty <;> cases (c.tab.toList == t.toList) <;> simp) with ⟨hp, h1⟩ | ⟨hp, h1, h2⟩ | ⟨hp, h1, h2, h3⟩ | ⟨hp, h1, h2, h3⟩
          all_goals
            rw [hp] at hst
            simp only [if_true, if_false, Bool.false_eq_true, List.append_nil] at hst
            have HST := hide hst
            have HNX := hide hnx
            clear hst hnx hc hp
            go_wp2
            go_roundw
            case rel =>
              refine ⟨j + 1, by omega, by go_num, ?_, ?_, ?_⟩
              · rw [HNX.out, HST.out]; try simp
              · rw [HNX.out, HST.out]; try simp [last_snoc]
              · exact HB.out.alloc HB.out.size _
            case measure => simp [intOf]; omega
        · have hjn : cs.take j = cs := List.take_of_length_le (by have := HC.out.len; omega)
          have hfr := HR.out.1.symm.trans (find_step t n HCS.out)
          rw [hjn]
          generalize placesF (meansB t n) 0 cs = L at *
          have HF := hide hfr
          have HB2 := hide (HR.out.2.trans (HB.out.mono HR.out.2.size))
          clear hfr hjn
          match L, HF with
          | [], HF =>
            go_wp2
            go_roundw
            case rel => exact ⟨k + 1, by omega, by go_num, ⟨HF.out.symm, HB2.out⟩⟩
            case measure => simp [intOf]; omega
          | [i], HF =>
            go_wp2
            go_ret3
            refine ⟨?_, HB2.out⟩
            rw [HF.out]
            rfl
          | i :: i2 :: r, HF =>
            have hr : (1 : Int) < ((i :: i2 :: r).length : Int) := by simp; omega
            generalize (i :: i2 :: r).length = N at *
            go_wp2
            go_ret3
            refine ⟨?_, HB2.out⟩
            rw [HF.out]
            rfl
    · have hfr := HR.out.1
      rw [List.drop_of_length_le (by have := HE.out.len; omega)] at hfr
      have HF := hide hfr.symm
      clear hfr
      go_wp2
      go_ret3
      refine ⟨?_, HR.out.2⟩
      rw [HF.out]
      rfl
end Go.Proofs.YtjbnhaiiedajjaaDoor

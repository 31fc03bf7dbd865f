/- Contracts of value.Rights and of its reference. -/
import Derived.Test.YtlkeghfdpbfhbaaOpenV
namespace Go.Proofs.Ytlkeghfdpbfhbaa
set_option linter.unusedVariables false
open Go.ChangeShapes Go.WideShapes Go.ChangeAt Go.RowKit

def rightP (v : ValV) : Bool := rightV v.kind v.num v.str
theorem all_no {r : List ValV} {k : Nat} {v : ValV} (h : r[k]? = some v) (hv : rightP v = false) : r.all rightP = false := by
  rw [List.all_eq_false]
  exact ⟨v, List.mem_of_getElem? h, by rw [hv]; simp⟩
theorem all_on {r : List ValV} {k : Nat} {v : ValV} (h : r[k]? = some v) (ha : (r.take k).all rightP = true) (hv : rightP v = true) : (r.take (k + 1)).all rightP = true := by
  rw [take_at h, List.all_append, ha]
  simp [hv]
set_option maxHeartbeats 1000000 in
theorem rightsW_c (A : Option Addr) (n c : Nat) (r : List ValV) (w : World) (h : RowAt w w.heap.size A n c r) (hn : n ≤ 4194304) (hr : ∀ a ∈ r, OkV a) :
    Calls Try.prog 18 #[.slice A n c] w fun e w' => e = .returned (.bool (r.all rightP)) ∧ Below w.heap.size w w' := by
  have H := hide h
  have HR := hide hr
  have HL := hide h.len
  clear h hr
  go_enter Try.func18, Try.ntmps18
  go_wp2_with fail
  go_loopw [7] (fun i wr => ∃ k : Nat, k ≤ n ∧ i = .int .i64 k ∧ Hid (Below w.heap.size w wr) ∧ Hid ((r.take k).all rightP = true)) (fun i _ => n - (intOf i).toNat)
  case atStart => exact ⟨0, Nat.zero_le _, rfl, Below.refl _ _, rfl⟩
  case round =>
    obtain ⟨k, hk, rfl, HB, HT⟩ := hrel
    by_cases hlt : k < n
    · obtain ⟨b, off, v, rfl, hb, hv, hc0, hc1, hc2⟩ := RowAt.val (H.out.below HB.out) hlt
      have hok := HR.out v (List.mem_of_getElem? hv)
      have q := fun W => right_c v.kind v.num v.str W (by have := hok.2; unfold maxLen; omega)
      have hx : Hid (rightP v = rightV v.kind v.num v.str) := rfl
      have HV := hide hv
      clear hv hok
      obtain ⟨vk, vn, vs⟩ := v
      simp only at q hx hc0 hc1 hc2
      generalize rightV vk vn vs = x at *
      have Q := hide q
      clear q
      cases x
      · go_wp2_with fail
        refine (Q.out _).mono ?_
        rintro e w1 ⟨rfl, hb1⟩
        have HB1 := hide (HB.out.trans ((Below.alloc (Below.refl _ _) (Nat.le_refl _) _).trans (hb1.mono (by rw [World.size_alloc]; omega)) |>.mono HB.out.size))
        clear hb1
        go_wp2_with fail
        go_ret
        exact ⟨ret_bool (all_no HV.out hx.out).symm, HB1.out⟩
      · go_wp2_with fail
        refine (Q.out _).mono ?_
        rintro e w1 ⟨rfl, hb1⟩
        have HB1 := hide (HB.out.trans ((Below.alloc (Below.refl _ _) (Nat.le_refl _) _).trans (hb1.mono (by rw [World.size_alloc]; omega)) |>.mono HB.out.size))
        have HT1 := hide (all_on HV.out HT.out hx.out)
        clear hb1
        go_wp2_with fail
        go_roundw
        case rel => exact ⟨k + 1, by omega, by go_num, HB1, HT1⟩
        case measure => simp [intOf]; omega
    · have hkn : k = n := by omega
      have HX := hide HT.out
      go_wp2_with fail
      go_ret
      refine ⟨ret_bool ?_, HB.out⟩
      have := HX.out
      rw [hkn, ← HL.out, List.take_length] at this
      exact this.symm
theorem rights_c (A : Option Addr) (n c : Nat) (r : List ValV) (w : World) (h : RowAt w w.heap.size A n c r) (hn : n ≤ 1048576) (hr : ∀ a ∈ r, OkV a) :
    Calls Try.prog 18 #[.slice A n c] w fun e w' => e = .returned (.bool (r.all rightP)) ∧ Below w.heap.size w w' :=
  rightsW_c A n c r w h (by omega) hr
end Go.Proofs.Ytlkeghfdpbfhbaa

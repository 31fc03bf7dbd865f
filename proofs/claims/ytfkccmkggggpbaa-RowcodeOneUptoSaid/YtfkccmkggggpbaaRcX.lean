/- The walks of RowcodePuts and RowcodeGets. -/
import Derived.Test.YtfkccmkggggpbaaRcW
namespace Go.Proofs.Ytfkccmkggggpbaa
set_option linter.unusedVariables false
open Go.ChangeShapes Go.WideShapes Go.ChangeAt Go.RowKit

set_option maxHeartbeats 1000000 in
theorem puts_w (A : Option Addr) (n c : Nat) (r : List ValV) (w : World) (h : RowAt w w.heap.size A n c r) (hn : n ≤ 1048576) (hr : ∀ a ∈ r, OkV a) :
    Calls Try.prog 3 #[.slice A n c] w fun e w' => e = .returned (.bool true) ∧ Below w.heap.size w w' := by
  have QA := hide (fun W => awake_c W)
  have QP := hide (fun (W : World) (hW : Below w.heap.size w W) => putR_c A n c r W (h.kept hW) hn hr)
  have QR := hide (fun (W : World) (hW : Below w.heap.size w W) => rputR_c A n c r W (h.kept hW) hn hr)
  have QS := hide (fun (W : World) (hW : Below w.heap.size w W) => sizeR_c A n c r W (h.kept hW) hn hr)
  have QT := hide (fun (W : World) (hW : Below w.heap.size w W) => rsizeR_c A n c r W (h.kept hW) hn hr)
  have H := hide h
  clear h hr
  generalize putG r = x at *
  generalize sizeR r = y at *
  obtain ⟨x1, x2⟩ := x
  unfold GivesP at QP QR
  simp only at QP QR
  generalize strL x2 = t at *
  by_cases h100 : n ≤ 100
  · go_enter Try.func3, Try.ntmps3
    go_wp2_with fail
    go_loopw [3] (fun i wr => ∃ k : Nat, k ≤ n ∧ i = .int .i64 k ∧ Hid (wr = w)) (fun i _ => n - (intOf i).toNat)
    case atStart => exact ⟨0, Nat.zero_le _, rfl, hide rfl⟩
    case round =>
      obtain ⟨k, hk, rfl, HW⟩ := hrel
      obtain rfl : wr = w := HW.out
      clear HW
      by_cases hlt : k < n
      · obtain ⟨b, off, v, rfl, hb, hv, hc0, hc1, hc2⟩ := RowAt.val H.out hlt
        obtain ⟨vk, vn, vs⟩ := v
        simp only at hc0 hc1 hc2
        clear hv
        by_cases h300 : 300 < vs.size
        · go_wp2_with fail
          refine (QA.out _).mono ?_
          rintro e w1 ⟨rfl, hb1⟩
          have HB := hide hb1
          clear hb1
          go_wp2_with fail
          go_ret
          exact ⟨rfl, HB.out⟩
        · go_wp2_with fail
          go_roundw
          case rel => exact ⟨k + 1, by omega, by go_num, by first | exact hide trivial | exact hide rfl⟩
          case measure => simp [intOf]; omega
      · go_wp2_with fail
        refine (QP.out _ (Below.refl _ _)).mono ?_
        rintro e w1 ⟨rfl, hb⟩
        have HB1 := hide hb
        clear hb
        go_wp2_with fail
        refine (QR.out _ HB1.out).mono ?_
        rintro e w2 ⟨rfl, hb⟩
        have HB2 := hide (Bel.then HB1.out hb)
        clear hb HB1
        go_wp2_with fail
        refine (QA.out _).mono ?_
        rintro e w3 ⟨rfl, hb⟩
        have HB3 := hide (Bel.then HB2.out hb)
        clear hb HB2
        go_wp2_with fail
        refine (QS.out _ HB3.out).mono ?_
        rintro e w4 ⟨rfl, hb⟩
        have HB4 := hide (Bel.then HB3.out hb)
        clear hb HB3
        go_wp2_with fail
        refine (QT.out _ HB4.out).mono ?_
        rintro e w5 ⟨rfl, hb⟩
        have HB5 := hide (Bel.then HB4.out hb)
        clear hb HB4
        go_wp2_with fail
        go_ret
        refine ⟨ret_bool ?_, HB5.out⟩
        simp
  · go_enter Try.func3, Try.ntmps3
    go_wp2_with fail
    refine (QA.out _).mono ?_
    rintro e w1 ⟨rfl, hb1⟩
    have HB := hide hb1
    clear hb1
    go_wp2_with fail
    go_ret
    exact ⟨rfl, HB.out⟩
set_option maxHeartbeats 1000000 in
theorem gets_w (s : ByteArray) (w : World) (hm : s.size ≤ 1048576) :
    Calls Try.prog 4 #[.string s] w fun e w' => e = .returned (.bool true) ∧ Below w.heap.size w w' := by
  have QA := hide (fun W => awake_c W)
  have QG := hide (fun W => getR_c s W hm)
  have QR := hide (fun W => rgetR_c s W hm)
  generalize getG s.data.toList = x at *
  obtain ⟨x1, x2⟩ := x
  by_cases h600 : s.size ≤ 600
  · go_enter Try.func4, Try.ntmps4
    go_wp2_with fail
    refine (QG.out _).mono ?_
    rintro e w1 ⟨A1, c1, rfl, hr1, hb⟩
    have HR1 := hide hr1
    have HB1 := hide hb
    clear hb hr1
    simp only at HR1
    go_wp2_with fail
    refine (QR.out _).mono ?_
    rintro e w2 ⟨A2, c2, rfl, hr2, hb⟩
    have HR2 := hide hr2
    have HR12 := hide (HR1.out.kept hb)
    have HB2 := hide (Bel.then HB1.out hb)
    clear hb hr2 HR1 HB1
    simp only at HR2
    go_wp2_with fail
    refine (QA.out _).mono ?_
    rintro e w3 ⟨rfl, hb⟩
    have QO := hide (orders_c A1 A2 _ c1 _ c2 x2 x2 w3 (HR12.out.kept hb) (HR2.out.kept hb))
    rw [cmpR_refl] at QO
    have HB3 := hide (Bel.then HB2.out hb)
    clear hb HB2 HR12 HR2
    go_wp2_with fail
    refine QO.out.mono ?_
    rintro e w4 ⟨rfl, hb⟩
    have HB4 := hide (Bel.then HB3.out hb)
    clear hb HB3 QO
    go_wp2_with fail
    go_ret
    refine ⟨ret_bool ?_, HB4.out⟩
    simp
  · go_enter Try.func4, Try.ntmps4
    go_wp2_with fail
    refine (QA.out _).mono ?_
    rintro e w1 ⟨rfl, hb1⟩
    have HB := hide hb1
    clear hb1
    go_wp2_with fail
    go_ret
    exact ⟨rfl, HB.out⟩
end Go.Proofs.Ytfkccmkggggpbaa

/- The walk of slices.rotateCmpFunc: two neighbouring blocks change places. -/
import Derived.Test.YtobepbpiagclnaaDoorSymA
namespace Go.Proofs.YtobepbpiagclnaaDoor
set_option linter.unusedVariables false
open Go.ChangeShapes Go.WideShapes Go.ChangeAt Go.RowKit

set_option maxRecDepth 100000 in
set_option maxHeartbeats 4000000 in
theorem rotate_c (base g n cap a m b : Nat) (w : World) (f : Value) (P U V S : List RowP) (h : SortR base w g n cap (P ++ (U ++ (V ++ S)))) (ha : P.length = a) (hm : m = a + U.length) (hb : b = m + V.length) (hu : 1 ≤ U.length) (hv : 1 ≤ V.length) (hg : base ≤ g) (hbw : base ≤ w.heap.size) (hn : n ≤ 1048576) :
    Calls Tryd.prog 45 #[.slice (some ⟨g, 0, none⟩) n cap, .int .i64 a, .int .i64 m, .int .i64 b, f] w fun e w' => e = .returned (.tuple #[]) ∧ MovR base g n cap w w' (P ++ (V ++ (U ++ S))) := by
  have hl := h.len
  simp only [List.length_append] at hl
  obtain ⟨i0, hi0⟩ : ∃ i0, U.length = i0 := ⟨_, rfl⟩
  obtain ⟨j0, hj0⟩ : ∃ j0, V.length = j0 := ⟨_, rfl⟩
  rw [hi0] at hm hu hl
  rw [hj0] at hb hv hl
  have w1 : IntKind.i64.wrap ((m : Int) - (a : Int)) = (i0 : Int) := by rw [IntWalk.i64_in _ (by omega)]; omega
  have w2 : IntKind.i64.wrap ((b : Int) - (m : Int)) = (j0 : Int) := by rw [IntWalk.i64_in _ (by omega)]; omega
  have w3 : ((m : Int) - (a : Int)) = (i0 : Int) := by omega
  have w4 : ((b : Int) - (m : Int)) = (j0 : Int) := by omega
  have w5 : IntKind.i64.wrap (i0 : Int) = (i0 : Int) := IntWalk.i64_in _ (by omega)
  have w6 : IntKind.i64.wrap (j0 : Int) = (j0 : Int) := IntWalk.i64_in _ (by omega)
  have HM0 : Hid (MovR base g n cap w w ((P ++ []) ++ (U ++ (V ++ ([] ++ S))))) := ⟨Below.refl _ _, by simpa using h⟩
  have HE0 : Hid ([] ++ (V ++ (U ++ [])) = V ++ U) := by show _ = _; simp
  have hPA : (P ++ ([] : List RowP)).length + i0 = m := by simp; omega
  have hmn : m + j0 ≤ n := by omega
  clear h hm hb hl ha
  go_enter Tryd.func45, Tryd.ntmps45
  go_wp2_with fail
  clear w1 w2 w3 w4 w5 w6
  go_loopw [10, 11] (fun iv jv wr => ∃ (i j : Nat) (U' V' A B : List RowP), iv = .int .i64 i ∧ jv = .int .i64 j ∧ U'.length = i ∧ V'.length = j ∧ 1 ≤ i ∧ 1 ≤ j ∧ i ≤ m ∧ m + j ≤ n ∧ Hid ((P ++ A).length + i = m) ∧ Hid (MovR base g n cap w wr ((P ++ A) ++ (U' ++ (V' ++ (B ++ S))))) ∧ Hid (A ++ (V' ++ (U' ++ B)) = V ++ U)) (fun iv jv _ => (intOf iv).toNat + (intOf jv).toNat)
  case atStart => exact ⟨i0, j0, U, V, [], [], rfl, rfl, hi0, hj0, hu, hv, by omega, hmn, hPA, HM0, HE0⟩
  case round =>
    clear HM0 HE0 hPA hmn hi0 hj0 hu hv
    obtain ⟨i, j, U', V', A, B, rfl, rfl, hi, hj, hi1, hj1, him, hmj, HL, HM, HE⟩ := hrel
    have hll := HL.out
    obtain ⟨mi, hmi⟩ : ∃ mi, m - i = mi := ⟨_, rfl⟩
    have hmi2 : (P ++ A).length = mi := by omega
    have w1 : IntKind.i64.wrap ((m : Int) - (i : Int)) = (mi : Int) := by rw [IntWalk.i64_in _ (by omega)]; omega
    have w3 : ((m : Int) - (i : Int)) = (mi : Int) := by omega
    have w5 : IntKind.i64.wrap (mi : Int) = (mi : Int) := IntWalk.i64_in _ (by omega)
    by_cases he : i = j
    · have hne : ((i : Int) != (j : Int)) = false := by simp; omega
      have Q := hide (swapRange_c base g n cap mi m i wr f (P ++ A) U' [] V' (B ++ S) (by simpa using HM.out.at_) hmi2 hi (by omega) (by simp; omega) hg (HM.out.low hbw) hn)
      have HX : Hid ((P ++ A) ++ (V' ++ ([] ++ (U' ++ (B ++ S)))) = P ++ (V ++ (U ++ S))) := by
        show _ = _
        have : A ++ (V' ++ (U' ++ B)) ++ S = V ++ U ++ S := by rw [HE.out]
        simp only [List.append_assoc, List.nil_append] at this ⊢
        rw [this]
      rw [HX.out] at Q
      have HB := hide HM.out.below
      clear HX HM HE HL hll hmi2 hmi he
      go_wp2_with fail
      refine Q.out.mono ?_
      rintro e w1 ⟨rfl, hM⟩
      have HM := hide hM
      clear hM
      go_wp2_with fail
      go_end0
      exact ⟨rfl, ⟨HB.out.trans HM.out.below, HM.out.at_⟩⟩
    · have hne : ((i : Int) != (j : Int)) = true := by simp; omega
      by_cases hgt : j < i
      · have hgti : (j : Int) < (i : Int) := by omega
        obtain ⟨d, hd⟩ : ∃ d, i - j = d := ⟨_, rfl⟩
        have w6 : IntKind.i64.wrap ((i : Int) - (j : Int)) = (d : Int) := by rw [IntWalk.i64_in _ (by omega)]; omega
        have w7 : ((i : Int) - (j : Int)) = (d : Int) := by omega
        have w8 : IntKind.i64.wrap (d : Int) = (d : Int) := IntWalk.i64_in _ (by omega)
        have Q := hide (swapRange_c base g n cap mi m j wr f (P ++ A) (U'.take j) (U'.drop j) V' (B ++ S) (by have := HM.out.at_; rw [← List.append_assoc (U'.take j), List.take_append_drop]; exact this) hmi2 (by rw [List.length_take]; omega) hj (by rw [List.length_drop]; omega) hg (HM.out.low hbw) hn)
        have HX : Hid ((P ++ A) ++ (V' ++ (U'.drop j ++ (U'.take j ++ (B ++ S)))) = (P ++ (A ++ V')) ++ (U'.drop j ++ (U'.take j ++ (B ++ S)))) := by show _ = _; simp
        rw [HX.out] at Q
        have HE2 : Hid ((A ++ V') ++ (U'.take j ++ (U'.drop j ++ B)) = V ++ U) := by
          show _ = _
          rw [← HE.out, ← List.append_assoc (U'.take j), List.take_append_drop]
          simp
        have HL2 : Hid ((P ++ (A ++ V')).length + d = m) := by show _ = _; simp only [List.length_append] at hll ⊢; omega
        have HB := hide HM.out.below
        have hd1 : 1 ≤ d := by omega
        have hdm : d ≤ m := by omega
        have hdi : d < i := by omega
        have hl1 : (U'.drop j).length = d := by rw [List.length_drop]; omega
        have hl2 : (U'.take j).length = j := by rw [List.length_take]; omega
        clear HX HM HE HL hll hmi2 hmi hd
        go_wp2_with fail
        refine Q.out.mono ?_
        rintro e wr2 ⟨rfl, hM⟩
        have HM := hide (show MovR base g n cap w wr2 ((P ++ (A ++ V')) ++ (U'.drop j ++ (U'.take j ++ (B ++ S)))) from ⟨HB.out.trans hM.below, hM.at_⟩)
        clear hM Q HB
        go_wp2_with fail
        go_roundw
        case rel => exact ⟨d, j, U'.drop j, U'.take j, A ++ V', B, rfl, rfl, hl1, hl2, hd1, hj1, hdm, hmj, HL2, HM, HE2⟩
        case measure => simp [intOf]; omega
      · have hgti : ¬ (j : Int) < (i : Int) := by omega
        obtain ⟨d, hd⟩ : ∃ d, j - i = d := ⟨_, rfl⟩
        obtain ⟨mj, hmj2⟩ : ∃ mj, m + j = mj := ⟨_, rfl⟩
        obtain ⟨md, hmd⟩ : ∃ md, mj - i = md := ⟨_, rfl⟩
        have w6 : IntKind.i64.wrap ((j : Int) - (i : Int)) = (d : Int) := by rw [IntWalk.i64_in _ (by omega)]; omega
        have w7 : ((j : Int) - (i : Int)) = (d : Int) := by omega
        have w8 : IntKind.i64.wrap (d : Int) = (d : Int) := IntWalk.i64_in _ (by omega)
        have w9 : IntKind.i64.wrap ((m : Int) + (j : Int)) = (mj : Int) := by rw [IntWalk.i64_in _ (by omega)]; omega
        have w10 : ((m : Int) + (j : Int)) = (mj : Int) := by omega
        have w11 : IntKind.i64.wrap (mj : Int) = (mj : Int) := IntWalk.i64_in _ (by omega)
        have w12 : IntKind.i64.wrap ((mj : Int) - (i : Int)) = (md : Int) := by rw [IntWalk.i64_in _ (by omega)]; omega
        have w13 : ((mj : Int) - (i : Int)) = (md : Int) := by omega
        have w14 : IntKind.i64.wrap (md : Int) = (md : Int) := IntWalk.i64_in _ (by omega)
        have Q := hide (swapRange_c base g n cap mi md i wr f (P ++ A) U' (V'.take d) (V'.drop d) (B ++ S) (by have := HM.out.at_; rw [← List.append_assoc (V'.take d), List.take_append_drop]; exact this) hmi2 hi (by rw [List.length_drop]; omega) (by rw [List.length_take]; omega) hg (HM.out.low hbw) hn)
        have HX : Hid ((P ++ A) ++ (V'.drop d ++ (V'.take d ++ (U' ++ (B ++ S)))) = (P ++ A) ++ (V'.drop d ++ (V'.take d ++ ((U' ++ B) ++ S)))) := by show _ = _; simp
        rw [HX.out] at Q
        have HE2 : Hid (A ++ (V'.take d ++ (V'.drop d ++ (U' ++ B))) = V ++ U) := by
          show _ = _
          rw [← HE.out, ← List.append_assoc (V'.take d), List.take_append_drop]
        have HB := hide HM.out.below
        have hd1 : 1 ≤ d := by omega
        have hdm : m + d ≤ n := by omega
        have hdi : d < j := by omega
        have hl1 : (V'.drop d).length = i := by rw [List.length_drop]; omega
        have hl2 : (V'.take d).length = d := by rw [List.length_take]; omega
        clear HX HM HE hll hmi2 hmi hd hmj2 hmd
        go_wp2_with fail
        refine Q.out.mono ?_
        rintro e wr2 ⟨rfl, hM⟩
        have HM := hide (show MovR base g n cap w wr2 ((P ++ A) ++ (V'.drop d ++ (V'.take d ++ ((U' ++ B) ++ S)))) from ⟨HB.out.trans hM.below, hM.at_⟩)
        clear hM Q HB
        go_wp2_with fail
        go_roundw
        case rel => exact ⟨i, d, V'.drop d, V'.take d, A, U' ++ B, rfl, rfl, hl1, hl2, hi1, hd1, him, hdm, HL, HM, HE2⟩
        case measure => simp [intOf]; omega
end Go.Proofs.YtobepbpiagclnaaDoor

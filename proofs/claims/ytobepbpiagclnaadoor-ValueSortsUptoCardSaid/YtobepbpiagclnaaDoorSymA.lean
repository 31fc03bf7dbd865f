/- The walk of slices.swapRangeCmpFunc: two blocks of the same length change places. -/
import Derived.Test.YtobepbpiagclnaaDoorSymM
import Derived.Test.YtobepbpiagclnaaDoorInsE
namespace Go.Proofs.YtobepbpiagclnaaDoor
set_option linter.unusedVariables false
open Go.ChangeShapes Go.WideShapes Go.ChangeAt Go.RowKit

def swp (P X Q Y S : List RowP) (i : Nat) : List RowP := (P ++ Y.take i) ++ (X.drop i ++ (Q ++ (X.take i ++ (Y.drop i ++ S))))
theorem swp_zero (P X Q Y S : List RowP) : swp P X Q Y S 0 = P ++ (X ++ (Q ++ (Y ++ S))) := by simp [swp]
theorem swp_end (P X Q Y S : List RowP) (i : Nat) (hx : X.length ≤ i) (hy : Y.length ≤ i) : swp P X Q Y S i = P ++ (Y ++ (Q ++ (X ++ S))) := by
  unfold swp
  rw [List.take_of_length_le hx, List.take_of_length_le hy, List.drop_of_length_le hx, List.drop_of_length_le hy]
  simp
theorem swp_here (P X Q Y S : List RowP) {i : Nat} {x y : RowP} (hx : X[i]? = some x) (hy : Y[i]? = some y) : swp P X Q Y S i = (P ++ Y.take i) ++ x :: ((X.drop (i + 1) ++ (Q ++ X.take i)) ++ y :: (Y.drop (i + 1) ++ S)) := by
  unfold swp
  rw [drop_at hx, drop_at hy]
  simp
theorem swp_next (P X Q Y S : List RowP) {i : Nat} {x y : RowP} (hx : X[i]? = some x) (hy : Y[i]? = some y) : swp P X Q Y S (i + 1) = (P ++ Y.take i) ++ y :: ((X.drop (i + 1) ++ (Q ++ X.take i)) ++ x :: (Y.drop (i + 1) ++ S)) := by
  unfold swp
  rw [take_at hx, take_at hy]
  simp
set_option maxRecDepth 100000 in
set_option maxHeartbeats 2000000 in
theorem swapRange_c (base g n cap a b k : Nat) (w : World) (f : Value) (P X Q Y S : List RowP) (h : SortR base w g n cap (P ++ (X ++ (Q ++ (Y ++ S))))) (ha : P.length = a) (hx : X.length = k) (hy : Y.length = k) (hb : b = a + k + Q.length) (hg : base ≤ g) (hbw : base ≤ w.heap.size) (hn : n ≤ 1048576) :
    Calls Tryd.prog 54 #[.slice (some ⟨g, 0, none⟩) n cap, .int .i64 a, .int .i64 b, .int .i64 k, f] w fun e w' => e = .returned (.tuple #[]) ∧ MovR base g n cap w w' (P ++ (Y ++ (Q ++ (X ++ S)))) := by
  have hl := h.len
  simp only [List.length_append] at hl
  have HM0 : Hid (MovR base g n cap w w (swp P X Q Y S 0)) := ⟨Below.refl _ _, by rw [swp_zero]; exact h⟩
  obtain ⟨qn, hqn⟩ : ∃ qn, Q.length = qn := ⟨_, rfl⟩
  rw [hqn] at hb hl
  replace hb := hb.symm
  clear h
  go_enter Tryd.func54, Tryd.ntmps54
  go_wp2_with fail
  go_loopw [10] (fun v wr => ∃ i : Nat, i ≤ k ∧ v = .int .i64 i ∧ Hid (MovR base g n cap w wr (swp P X Q Y S i))) (fun v _ => k - (intOf v).toNat)
  case atStart => exact ⟨0, Nat.zero_le _, rfl, HM0⟩
  case round =>
    clear HM0
    obtain ⟨i, hi, rfl, HM⟩ := hrel
    by_cases hlt : i < k
    · have hlti : (i : Int) < k := by omega
      have hwi : IntKind.i64.wrap ((i : Int) + 1) = (i : Int) + 1 := IntWalk.i64_in _ (by omega)
      obtain ⟨x, hxi⟩ : ∃ x, X[i]? = some x := ⟨_, List.getElem?_eq_getElem (by omega)⟩
      obtain ⟨y, hyi⟩ : ∃ y, Y[i]? = some y := ⟨_, List.getElem?_eq_getElem (by omega)⟩
      have hh := HM.out
      rw [swp_here P X Q Y S hxi hyi] at hh
      have HN := hide (swp_next P X Q Y S hxi hyi)
      have hL : a + i = (P ++ Y.take i).length := by rw [List.length_append, List.length_take]; omega
      have hM : b + i = (P ++ Y.take i).length + 1 + (X.drop (i + 1) ++ (Q ++ X.take i)).length := by simp only [List.length_append, List.length_take, List.length_drop]; omega
      obtain ⟨c1, c2, z1, z2, hbn⟩ := hh.cells hL hM
      have HS := hide ((hh.kept (hh.low hbw) (Below.refl wr.heap.size wr).drew).swap' hg hL hM)
      rw [← HN.out] at HS
      have w1 : IntKind.i64.wrap ((a : Int) + (i : Int)) = ((a + i : Nat) : Int) := by rw [IntWalk.i64_in _ (by omega)]; omega
      have w2 : IntKind.i64.wrap ((b : Int) + (i : Int)) = ((b + i : Nat) : Int) := by rw [IntWalk.i64_in _ (by omega)]; omega
      have l1 : ((a + i : Nat) : Int) < n := by omega
      have l2 : ((b + i : Nat) : Int) < n := by omega
      have l3 : (0 : Int) ≤ ((a + i : Nat) : Int) := by omega
      have l4 : (0 : Int) ≤ ((b + i : Nat) : Int) := by omega
      have n1 : a + i ≠ b + i := by omega
      have n2 : b + i ≠ a + i := by omega
      clear hL hM hh HN HM hxi hyi
      generalize a + i = ai at *
      generalize b + i = bi at *
      unfold headV at c1 c2 HS
      go_wp2_with fail
      go_region
      go_wp2_with fail
      go_roundw
      case rel => exact ⟨i + 1, by omega, by go_num, HS⟩
      case measure => simp [intOf]; omega
    · have hlti : ¬ (i : Int) < k := by omega
      obtain rfl : i = k := by omega
      have HE := HM.out
      rw [swp_end _ _ _ _ _ _ (by omega) (by omega)] at HE
      replace HE := hide HE
      clear HM
      go_wp2_with fail
      go_end0
      exact ⟨rfl, HE.out⟩
end Go.Proofs.YtobepbpiagclnaaDoor

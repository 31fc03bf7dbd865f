/- Contracts: the size of a value and of a row. -/
import Derived.Test.YtebamnlknaoehaaRcM2
import Derived.Test.YtebamnlknaoehaaBld
import Derived.Handy
namespace Go.Proofs.Ytebamnlknaoehaa
set_option linter.unusedVariables false
open Go.ChangeShapes Go.WideShapes Go.ChangeAt Go.RowKit

theorem sum_snoc (l : List ValV) (v : ValV) : sumV (l ++ [v]) = sumV l + sizeV v := by simp [sumV]
theorem size_range {v : ValV} (h : rightP v = true) : 1 ≤ sizeV v ∧ sizeV v ≤ 102 := by
  rcases right_kinds h with rfl | rfl | rfl | ⟨n, rfl, hn⟩ | ⟨s, rfl, hs⟩
  · decide
  · decide
  · decide
  · exact ⟨show (1 : Int) ≤ 9 by omega, show (9 : Int) ≤ 102 by omega⟩
  · have := (plain_iff.1 hs).1
    show 1 ≤ 2 + (s.size : Int) ∧ 2 + (s.size : Int) ≤ 102
    omega
theorem sum_range : ∀ (l : List ValV), l.all rightP = true → 0 ≤ sumV l ∧ sumV l ≤ 102 * l.length
  | [], _ => by simp [sumV]
  | v :: l, h => by
    rw [List.all_cons, Bool.and_eq_true] at h
    have h1 := sum_range l h.2
    have h2 := size_range h.1
    unfold sumV at *
    rw [List.map_cons, List.sum_cons, List.length_cons]
    omega
theorem size_c (v : ValV) (w : World) (h : rightP v = true) : Calls Try.prog 51 #[valAgg v] w fun e w' => e = .returned (.int .i64 (sizeV v)) ∧ Below w.heap.size w w' := by
  rcases right_kinds h with rfl | rfl | rfl | ⟨n, rfl, hn⟩ | ⟨s, rfl, hs⟩
  all_goals unfold valAgg
  all_goals clear h
  · go_enter Try.func51, Try.ntmps51
    go_wp2
    go_ret
    exact ⟨rfl, Bel.one _ _⟩
  · go_enter Try.func51, Try.ntmps51
    go_wp2
    go_ret
    exact ⟨rfl, Bel.one _ _⟩
  · go_enter Try.func51, Try.ntmps51
    go_wp2
    go_ret
    exact ⟨rfl, Bel.one _ _⟩
  · clear hn
    go_enter Try.func51, Try.ntmps51
    go_wp2
    go_ret
    exact ⟨rfl, Bel.one _ _⟩
  · have hl : (s.size : Int) ≤ 100 := by have := (plain_iff.1 hs).1; omega
    clear hs
    go_enter Try.func51, Try.ntmps51
    go_wp2
    go_ret
    refine ⟨ret_int ?_, Bel.one _ _⟩
    show _ = 2 + (s.size : Int)
    first | rfl | exact IntWalk.i64_in _ (by omega)
set_option maxHeartbeats 1000000 in
theorem sizeR_c (A : Option Addr) (n c : Nat) (r : List ValV) (w : World) (h : RowAt w w.heap.size A n c r) (hn : n ≤ 1048576) (hr : ∀ a ∈ r, OkV a) :
    Calls Try.prog 35 #[.slice A n c] w fun e w' => e = .returned (.int .i64 (sizeR r)) ∧ Below w.heap.size w w' := by
  have Q := hide (rights_c A n c r w h hn hr)
  have H := hide h
  have HL := hide h.len
  clear h hr
  unfold sizeR
  by_cases ha : r.all rightP = true
  · rw [ha] at Q
    rw [if_pos ha]
    have HA := hide ha
    clear ha
    go_enter Try.func35, Try.ntmps35
    go_wp2_with fail
    refine Q.out.mono ?_
    rintro e w1 ⟨rfl, hb⟩
    have HB := hide hb
    clear hb
    go_wp2_with fail
    go_loopw [3, 11] (fun z i wr => ∃ k : Nat, k ≤ n ∧ i = .int .i64 k ∧ z = .int .i64 (1 + sumV (r.take k)) ∧ Hid (Below w.heap.size w wr)) (fun _ i _ => n - (intOf i).toNat)
    case atStart => exact ⟨0, Nat.zero_le _, rfl, rfl, HB⟩
    case round =>
      obtain ⟨k, hk, rfl, rfl, HB⟩ := hrel
      by_cases hlt : k < n
      · obtain ⟨b, off, v, rfl, hb, hv, hc0, hc1, hc2⟩ := RowAt.val (H.out.below HB.out) hlt
        have hrv : rightP v = true := List.all_eq_true.1 HA.out v (List.mem_of_getElem? hv)
        have Q := hide (fun W => size_c v W hrv)
        have hs := sum_range (r.take (k + 1)) (by rw [List.all_eq_true]; exact fun x hx => List.all_eq_true.1 HA.out x (List.mem_of_mem_take hx))
        have ht := take_at hv
        rw [List.length_take] at hs
        rw [ht, sum_snoc] at hs
        have HS := hide (show 1 + sumV (r.take (k + 1)) = 1 + sumV (r.take k) + sizeV v by rw [ht, sum_snoc]; omega)
        have hw : IntKind.i64.wrap (1 + sumV (r.take k) + sizeV v) = 1 + sumV (r.take k) + sizeV v := IntWalk.i64_in _ (by omega)
        generalize sumV (r.take k) = y at *
        clear hv hrv hs ht
        obtain ⟨vk, vn, vs⟩ := v
        simp only [valAgg] at Q hc0 hc1 hc2
        generalize sizeV ⟨vk, vn, vs⟩ = x at *
        go_wp2_with fail
        refine (Q.out _).mono ?_
        rintro e w1 ⟨rfl, hb1⟩
        have HB1 := hide (HB.out.trans ((Below.alloc (Below.refl _ _) (Nat.le_refl _) _).trans (hb1.mono (by rw [World.size_alloc]; omega)) |>.mono HB.out.size))
        clear hb1
        go_wp2_with fail
        go_roundw
        case rel => exact ⟨k + 1, by omega, by go_num, by rw [HS.out], HB1⟩
        case measure => simp [intOf]; omega
      · obtain rfl : k = n := by omega
        have e : r.take k = r := by rw [← HL.out, List.take_length]
        rw [e]
        go_wp2_with fail
        go_ret
        exact ⟨rfl, HB.out⟩
  · have hf : r.all rightP = false := by simpa using ha
    rw [hf] at Q
    rw [if_neg ha]
    go_enter Try.func35, Try.ntmps35
    go_wp2_with fail
    refine Q.out.mono ?_
    rintro e w1 ⟨rfl, hb⟩
    have HB := hide hb
    clear hb
    go_wp2_with fail
    go_ret
    exact ⟨rfl, HB.out⟩
end Go.Proofs.Ytebamnlknaoehaa

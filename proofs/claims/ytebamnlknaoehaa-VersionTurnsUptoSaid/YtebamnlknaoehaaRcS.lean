/- Contracts of the reference's Size and Put. -/
import Derived.Test.YtebamnlknaoehaaRcR
namespace Go.Proofs.Ytebamnlknaoehaa
set_option linter.unusedVariables false
open Go.ChangeShapes Go.WideShapes Go.ChangeAt Go.RowKit

set_option maxRecDepth 100000 in
set_option maxHeartbeats 1000000 in
theorem rsizeR_c (A : Option Addr) (n c : Nat) (r : List ValV) (w : World) (h : RowAt w w.heap.size A n c r) (hn : n ≤ 1048576) (hr : ∀ a ∈ r, OkV a) :
    Calls Try.prog 40 #[.slice A n c] w fun e w' => e = .returned (.int .i64 (sizeR r)) ∧ Below w.heap.size w w' := by
  have Q := hide (rrights_c A n c r w h hn hr)
  have H := hide h
  have HL := hide h.len
  clear h hr
  unfold sizeR
  by_cases ha : r.all rightP = true
  · rw [ha] at Q
    rw [if_pos ha]
    have HA := hide ha
    clear ha
    go_enter Try.func40, Try.ntmps40
    go_wp2_with fail
    refine Q.out.mono ?_
    rintro e w1 ⟨rfl, hb⟩
    have HB := hide hb
    clear hb
    go_wp2_with fail
    go_loopw [3, 4] (fun z i wr => ∃ k : Nat, k ≤ n ∧ i = .int .i64 k ∧ z = .int .i64 (1 + sumV (r.take k)) ∧ Hid (Below w.heap.size w wr)) (fun _ i _ => n - (intOf i).toNat)
    case atStart => exact ⟨0, Nat.zero_le _, rfl, rfl, HB⟩
    case round =>
      obtain ⟨k, hk, rfl, rfl, HB⟩ := hrel
      by_cases hlt : k < n
      · obtain ⟨b, off, v, rfl, hb, hv, hc0, hc1, hc2⟩ := RowAt.val (H.out.below HB.out) hlt
        have hrv : rightP v = true := List.all_eq_true.1 HA.out v (List.mem_of_getElem? hv)
        have Q := hide (fun W => one_c v W hrv)
        have hsz : ((strL (encV v)).size : Int) = sizeV v := by rw [strL_size]; exact enc_len hrv
        have hs := sum_range (r.take (k + 1)) (by rw [List.all_eq_true]; exact fun x hx => List.all_eq_true.1 HA.out x (List.mem_of_mem_take hx))
        have ht := take_at hv
        rw [List.length_take] at hs
        rw [ht, sum_snoc] at hs
        have HS := hide (show 1 + sumV (r.take (k + 1)) = 1 + sumV (r.take k) + sizeV v by rw [ht, sum_snoc]; omega)
        have hw : IntKind.i64.wrap (1 + sumV (r.take k) + sizeV v) = 1 + sumV (r.take k) + sizeV v := IntWalk.i64_in _ (by omega)
        generalize sumV (r.take k) = y at *
        clear hv hrv hs ht
        obtain ⟨vk, vn, vs⟩ := v
        unfold GivesS at Q
        simp only [valAgg] at Q hc0 hc1 hc2
        generalize sizeV ⟨vk, vn, vs⟩ = x at *
        generalize strL (encV ⟨vk, vn, vs⟩) = t at *
        go_wp2_with fail
        refine (Q.out _).mono ?_
        rintro e w1 ⟨rfl, hb1⟩
        have HB1 := hide (HB.out.trans (hb1.mono HB.out.size))
        clear hb1
        go_wp2_with fail
        go_roundw
        case rel => exact ⟨k + 1, by omega, by go_num, by rw [HS.out], HB1⟩
        case measure => simp [intOf]; omega
      · obtain rfl : k = n := by omega
        have e : r.take k = r := by rw [← HL.out, List.take_length]
        rw [e]
        go_wp2_with fail
        go_ret
        exact ⟨rfl, HB.out⟩
  · have hf : r.all rightP = false := by simpa using ha
    rw [hf] at Q
    rw [if_neg ha]
    go_enter Try.func40, Try.ntmps40
    go_wp2_with fail
    refine Q.out.mono ?_
    rintro e w1 ⟨rfl, hb⟩
    have HB := hide hb
    clear hb
    go_wp2_with fail
    go_ret
    exact ⟨rfl, HB.out⟩
theorem strL_two (l m : List UInt8) : strL l ++ strL m = strL (l ++ m) := by rw [strL_app]; rfl
set_option maxRecDepth 100000 in
set_option maxHeartbeats 1000000 in
theorem rputR_c (A : Option Addr) (n c : Nat) (r : List ValV) (w : World) (h : RowAt w w.heap.size A n c r) (hn : n ≤ 1048576) (hr : ∀ a ∈ r, OkV a) :
    Calls Try.prog 26 #[.slice A n c] w (GivesP w (putG r)) := by
  have Q := hide (rrights_c A n c r w h hn hr)
  have QS := hide (fun (W : World) (hW : Below w.heap.size w W) => rsizeR_c A n c r W (h.kept hW) hn hr)
  have H := hide h
  have HL := hide h.len
  clear h hr
  unfold sizeR at QS
  rcases putG_cases r with ⟨ho, hp⟩ | ⟨hf, hp⟩ | ⟨ht, hno, hp⟩
  · rw [hp]
    rw [if_pos ho.right] at QS
    rw [ho.right] at Q
    have hsz := bytes_len ho.right
    have h400 := ho.size
    have h32 : n ≤ 32 := by rw [← HL.out]; exact ho.len
    have hs2 : 1 + sumV r ≤ 400 := by omega
    generalize 1 + sumV r = y at *
    have HO := hide ho
    clear ho hp hsz h400 hn
    have hst : strOfNums [(n : Int)] = strL (byteOf (n : Int) :: flatR (r.take 0)) := rfl
    go_enter Try.func26, Try.ntmps26
    go_wp2_with fail
    refine Q.out.mono ?_
    rintro e w1 ⟨rfl, hb⟩
    have HB := hide hb
    clear hb
    go_wp2_with fail
    refine (QS.out _ HB.out).mono ?_
    rintro e w2 ⟨rfl, hb⟩
    have HB2 := hide (HB.out.trans (hb.mono HB.out.size))
    have hcv := conv_at (n : Int) w2 _ rfl
    rw [hst] at hcv
    have HW := hide (Bel.alloc HB2.out (.cells #[.int .u8 (n : Int)] 5))
    clear hb HB QS Q hst
    go_wp2_with fail
    go_loopw [4, 5] (fun o i wr => ∃ k : Nat, k ≤ n ∧ i = .int .i64 k ∧ o = .string (strL (byteOf (n : Int) :: flatR (r.take k))) ∧ Hid (Below w.heap.size w wr)) (fun _ i _ => n - (intOf i).toNat)
    case atStart => exact ⟨0, Nat.zero_le _, rfl, rfl, HW⟩
    case round =>
      obtain ⟨k, hk, rfl, rfl, HB⟩ := hrel
      by_cases hlt : k < n
      · obtain ⟨b, off, v, rfl, hb, hv, hc0, hc1, hc2⟩ := RowAt.val (H.out.below HB.out) hlt
        have hrv : rightP v = true := List.all_eq_true.1 HO.out.right v (List.mem_of_getElem? hv)
        have ht := take_at hv
        have hz1 : ((strL (byteOf (n : Int) :: flatR (r.take k))).size : Int) ≤ 8388608 := by
          have := flat_take_len HO.out.right k
          have := HO.out.len
          rw [strL_size, List.length_cons]
          omega
        have hz2 : ((strL (encV v)).size : Int) ≤ 8388608 := by
          have h1 := enc_len hrv
          have h2 := size_range hrv
          rw [strL_size]
          omega
        have HT := hide (show strL (byteOf (n : Int) :: flatR (r.take k)) ++ strL (encV v) = strL (byteOf (n : Int) :: flatR (r.take (k + 1))) by rw [ht, flat_snoc, strL_two]; rfl)
        have Q := hide (fun W => one_c v W hrv)
        unfold GivesS at Q
        clear hv hrv ht hcv
        obtain ⟨vk, vn, vs⟩ := v
        simp only [valAgg] at Q hc0 hc1 hc2
        generalize strL (encV ⟨vk, vn, vs⟩) = t at *
        generalize strL (byteOf (n : Int) :: flatR (r.take k)) = u at *
        go_wp2_with fail
        refine (Q.out _).mono ?_
        rintro e w4 ⟨rfl, hb4⟩
        have HB4 := hide (HB.out.trans (hb4.mono HB.out.size))
        clear hb4
        go_wp2_with fail
        go_roundw
        case rel => exact ⟨k + 1, by omega, by go_num, by rw [← HT.out], HB4⟩
        case measure => simp [intOf]; omega
      · obtain rfl : k = n := by omega
        have e : r.take k = r := by rw [← HL.out, List.take_length]
        have HR := hide (show strL (byteOf (k : Int) :: flatR (r.take k)) = strL (bytesR r) by rw [e]; unfold bytesR; rw [HL.out])
        rw [HR.out]
        clear e hcv
        go_wp2_with fail
        go_ret2
        exact ⟨rfl, HB.out⟩
  · rw [hp]
    rw [hf] at Q
    go_enter Try.func26, Try.ntmps26
    go_wp2_with fail
    refine Q.out.mono ?_
    rintro e w1 ⟨rfl, hb⟩
    have HB := hide hb
    clear hb
    go_wp2_with fail
    go_ret2
    exact ⟨rfl, HB.out⟩
  · rw [hp]
    rw [if_pos ht] at QS
    rw [ht] at Q
    have hsz := bytes_len ht
    by_cases h32 : n ≤ 32
    · have hs2 : ¬ 1 + sumV r ≤ 400 := fun h => hno ⟨ht, by rw [HL.out]; exact h32, by omega⟩
      generalize 1 + sumV r = y at *
      clear hno hp hsz hn
      go_enter Try.func26, Try.ntmps26
      go_wp2_with fail
      refine Q.out.mono ?_
      rintro e w1 ⟨rfl, hb⟩
      have HB := hide hb
      clear hb
      go_wp2_with fail
      refine (QS.out _ HB.out).mono ?_
      rintro e w2 ⟨rfl, hb⟩
      have HB2 := hide (HB.out.trans (hb.mono HB.out.size))
      clear hb HB
      go_wp2_with fail
      go_ret2
      exact ⟨rfl, HB2.out⟩
    · clear hno hp hsz
      go_enter Try.func26, Try.ntmps26
      go_wp2_with fail
      refine Q.out.mono ?_
      rintro e w1 ⟨rfl, hb⟩
      have HB := hide hb
      clear hb
      go_wp2_with fail
      go_ret2
      exact ⟨rfl, HB.out⟩
end Go.Proofs.Ytebamnlknaoehaa

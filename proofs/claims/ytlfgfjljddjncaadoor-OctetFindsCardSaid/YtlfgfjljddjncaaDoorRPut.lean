/- The contract of the reference's Put, and of octet.Put at any size. -/
import Derived.Test.YtlfgfjljddjncaaDoorSeal
namespace Go.Proofs.YtlfgfjljddjncaaDoor
set_option linter.unusedVariables false
open Go.ChangeShapes Go.WideShapes Go.ChangeAt Go.RowKit

def low8 (u : Int) : Int := bits BinOp.and IntKind.u64 u 255 % 256
def putU (u : Int) : Nat → List Int
  | 0 => []
  | k + 1 => putU (u / 256) k ++ [low8 u]
def dv (u : Int) : Nat → Int
  | 0 => u
  | k + 1 => dv u k / 256
theorem dv_in : ∀ (k : Nat) (u : Int), dv (u / 256) k = dv u (k + 1)
  | 0, _ => rfl
  | k + 1, u => by rw [dv, dv_in k u]; rfl
theorem putU_front : ∀ (k : Nat) (u : Int), putU u (k + 1) = low8 (dv u k) :: putU u k
  | 0, _ => rfl
  | k + 1, u => by
    rw [putU, putU_front k (u / 256), dv_in]
    rfl
theorem putU_len : ∀ (k : Nat) (u : Int), (putU u k).length = k
  | 0, _ => rfl
  | k + 1, u => by rw [putU, List.length_append, putU_len k]; rfl
theorem strOf_cons (x : Int) (l : List Int) : strOfNums [x] ++ strOfNums l = strOfNums (x :: l) := by
  apply ByteArray.ext
  simp [strOfNums, ByteArray.data_append]
theorem strOf_nil : strOfNums [] = { data := #[] } := rfl
set_option maxHeartbeats 1000000 in
theorem rput_yes (n size : Int) (h0 : 0 ≤ size) (h8 : size ≤ 8) (w : World) :
    Calls Tryd.prog 10 #[.int .i64 n, .int .i64 size] w fun e w' => e = .returned (.string (strOfNums (putU (IntKind.u64.wrap n) size.toNat))) ∧ Below w.heap.size w w' := by
  generalize hu : IntKind.u64.wrap n = u at *
  go_enter Tryd.func10, Tryd.ntmps10
  go_wp2
  go_loopw [5, 6, 7] (fun o v i wr => ∃ k : Nat, (k : Int) ≤ size ∧ i = .int .i64 k ∧ v = .int .u64 (dv u k) ∧ o = .string (strOfNums (putU u k)) ∧ Below w.heap.size w wr) (fun _ _ i _ => (size - intOf i).toNat)
  case atStart => exact ⟨0, by omega, rfl, rfl, rfl, Below.refl _ _⟩
  case round =>
    obtain ⟨k, hk, rfl, rfl, rfl, hB⟩ := hrel
    have HB := hide hB
    clear hB
    by_cases hlt : (k : Int) < size
    · have hn : strOfNums (putU u (k + 1)) = strOfNums [low8 (dv u k)] ++ strOfNums (putU u k) := by rw [putU_front, strOf_cons]
      have hd : dv u (k + 1) = dv u k / 256 := rfl
      have hs1 : ((strOfNums (putU u k)).size : Int) ≤ 8388608 := by rw [strOf_size, putU_len]; omega
      have hs2 : ((strOfNums [low8 (dv u k)]).size : Int) ≤ 8388608 := by rw [strOf_size]; simp
      have hcv := conv_c wr [low8 (dv u k)] 5
      simp only [List.map_cons, List.map_nil, List.length_cons, List.length_nil, Nat.zero_add] at hcv
      generalize strOfNums (putU u k) = so at *
      generalize strOfNums [low8 (dv u k)] = sx at *
      generalize hsn : strOfNums (putU u (k + 1)) = sn at *
      generalize hv2 : dv u (k + 1) = v2 at *
      generalize dv u k = v at *
      generalize hl : low8 v = x at *
      unfold low8 at hl
      have HN := hide hn
      have HD := hide hd
      have HSN := hide hsn
      have HV2 := hide hv2
      clear hn hd hsn hv2
      go_wp2
      go_round
      case rel =>
        refine ⟨k + 1, by omega, by go_num, ?_, ?_, Bel.then HB.out (Bel.one _ _)⟩
        · rw [HV2.out, HD.out]
        · rw [HSN.out, HN.out]
      case measure => simp [intOf]; omega
    · have e : size.toNat = k := by omega
      go_wp2
      go_ret
      refine ⟨ret_str ?_, HB.out⟩
      rfl
theorem rput_no (n size : Int) (h : size < 0 ∨ 8 < size) (w : World) :
    Calls Tryd.prog 10 #[.int .i64 n, .int .i64 size] w fun e w' => e = .returned (.string { data := #[] }) ∧ w = w' := by
  rcases (show size < 0 ∨ (0 ≤ size ∧ 8 < size) by omega) with h1 | ⟨h1, h2⟩
  all_goals
    clear h
    go_enter Tryd.func10, Tryd.ntmps10
    go_wp2
    go_ret
    exact ⟨rfl, rfl⟩
theorem put_no (n size : Int) (h : size < 0 ∨ 8 < size) (w : World) :
    Calls Tryd.prog 8 #[.int .i64 n, .int .i64 size] w fun e w' => e = .returned (.string { data := #[] }) ∧ w = w' := by
  rcases (show size < 0 ∨ (0 ≤ size ∧ 8 < size) by omega) with h1 | ⟨h1, h2⟩
  all_goals
    clear h
    go_enter Tryd.func8, Tryd.ntmps8
    go_wp2
    go_ret
    exact ⟨rfl, rfl⟩
theorem put0 (n : Int) (w : World) :
    Calls Tryd.prog 8 #[.int .i64 n, .int .i64 0] w fun e w' => e = .returned (.string (strOfNums (putL n 0))) ∧ Below w.heap.size w w' := by
  have hmk : ∀ w, (Instr.makeSlice 39 (.int .i64 0) (.int .i64 0)).run Tryd.prog w = .ok (.slice (some ⟨w.heap.size, 0, none⟩) 0 0) (w.alloc (.cells #[] 5)) := fun _ => by kernel_rfl
  have hcv : (convert 39 9 (.slice (some ⟨w.heap.size, 0, none⟩) 0 0)).run Tryd.prog (w.alloc (.cells #[] 5)) = .ok (.string (strOfNums (putL n 0))) (w.alloc (.cells #[] 5)) := conv_c w [] 5
  generalize strOfNums (putL n 0) = s at *
  go_enter Tryd.func8, Tryd.ntmps8
  go_wp2
  go_rounds 1
  go_ret
  exact ⟨rfl, Bel.one _ _⟩
/-- What a put gives, at any size. -/
def putP (n size : Int) : ByteArray := if 0 ≤ size ∧ size ≤ 8 then strOfNums (putL n size.toNat) else { data := #[] }
theorem put_c (n size : Int) (w : World) :
    Calls Tryd.prog 8 #[.int .i64 n, .int .i64 size] w fun e w' => e = .returned (.string (putP n size)) ∧ Below w.heap.size w w' := by
  unfold putP
  by_cases h : 0 ≤ size ∧ size ≤ 8
  · rw [if_pos h]
    obtain rfl | rfl | rfl | rfl | rfl | rfl | rfl | rfl | rfl : size = 0 ∨ size = 1 ∨ size = 2 ∨ size = 3 ∨ size = 4 ∨ size = 5 ∨ size = 6 ∨ size = 7 ∨ size = 8 := by omega
    · exact put0 n w
    · exact put1 n w
    · exact put2 n w
    · exact put3 n w
    · exact put4 n w
    · exact put5 n w
    · exact put6 n w
    · exact put7 n w
    · exact put8 n w
  · rw [if_neg h]
    refine (put_no n size (by omega) w).mono ?_
    rintro e w' ⟨he, rfl⟩
    exact ⟨he, Below.refl _ _⟩
theorem low8_mod (u : Int) : low8 u = u % 256 := by
  have h : (BitVec.ofInt 64 u &&& BitVec.ofInt 64 255).toNat = (BitVec.ofInt 64 u).toNat % 256 := by
    rw [BitVec.toNat_and]
    exact Nat.and_two_pow_sub_one_eq_mod _ 8
  have e : low8 u = IntKind.wrap .u64 ((BitVec.ofInt 64 u &&& BitVec.ofInt 64 255).toNat : Int) % 256 := rfl
  rw [e, h, BitVec.toNat_ofInt]
  have e2 : ∀ n : Nat, n < 256 → IntKind.wrap .u64 (n : Int) = n := by
    intro n hn
    unfold IntKind.wrap
    simp [IntKind.bits, IntKind.signed]
    omega
  rw [e2 _ (by omega)]
  omega
theorem putU_L : ∀ (k : Nat) (u : Int), putU u k = putL u k
  | 0, _ => rfl
  | k + 1, u => by rw [putU, putL, putU_L k, low8_mod]
theorem mod_div (n m : Int) (hm : 0 < m) : n % (256 * m) / 256 = (n / 256) % m := by
  have h1 : n = 256 * ((n / 256) % m) + n % 256 + 256 * m * (n / 256 / m) := by
    have a := Int.emod_add_mul_ediv (n / 256) m
    have b := Int.emod_add_mul_ediv n 256
    have c : 256 * m * (n / 256 / m) = 256 * (m * (n / 256 / m)) := Int.mul_assoc _ _ _
    rw [c]
    generalize m * (n / 256 / m) = y at *
    omega
  have h2 := Int.emod_nonneg (n / 256) (show m ≠ 0 by omega)
  have h3 := Int.emod_lt_of_pos (n / 256) hm
  have h4 : n % (256 * m) = 256 * ((n / 256) % m) + n % 256 := by
    conv => lhs; rw [h1]
    rw [Int.add_mul_emod_self_left]
    generalize n / 256 % m = t at *
    exact Int.emod_eq_of_lt (by omega) (by omega)
  rw [h4]
  omega
theorem putL_mod : ∀ (k m : Nat) (n : Int), k ≤ m → putL (n % 256 ^ m) k = putL n k
  | 0, _, _, _ => rfl
  | k + 1, m, n, h => by
    obtain ⟨m, rfl⟩ : ∃ m', m = m' + 1 := ⟨m - 1, by omega⟩
    have hp : (0 : Int) < 256 ^ m := Int.pow_pos (by omega)
    have e1 : n % 256 ^ (m + 1) % 256 = n % 256 := by
      rw [Int.pow_succ]
      exact Int.emod_emod_of_dvd n (Int.dvd_mul_left _ _)
    have e2 : n % 256 ^ (m + 1) / 256 = (n / 256) % 256 ^ m := by
      rw [Int.pow_succ, Int.mul_comm (256 ^ m) 256]
      exact mod_div n _ hp
    rw [putL, putL, e1, e2, putL_mod k m (n / 256) (by omega)]
theorem wrap64_mod (n : Int) : IntKind.u64.wrap n = n % 256 ^ 8 := by
  unfold IntKind.wrap
  simp [IntKind.bits, IntKind.signed]
theorem put_same (n : Int) (k : Nat) (h : k ≤ 8) : putU (IntKind.u64.wrap n) k = putL n k := by
  rw [putU_L, wrap64_mod, putL_mod k 8 n h]
theorem rput_c (n size : Int) (w : World) :
    Calls Tryd.prog 10 #[.int .i64 n, .int .i64 size] w fun e w' => e = .returned (.string (putP n size)) ∧ Below w.heap.size w w' := by
  unfold putP
  by_cases h : 0 ≤ size ∧ size ≤ 8
  · rw [if_pos h, ← put_same n _ (by omega)]
    exact rput_yes n size h.1 h.2 w
  · rw [if_neg h]
    refine (rput_no n size (by omega) w).mono ?_
    rintro e w' ⟨he, rfl⟩
    exact ⟨he, Below.refl _ _⟩
end Go.Proofs.YtlfgfjljddjncaaDoor

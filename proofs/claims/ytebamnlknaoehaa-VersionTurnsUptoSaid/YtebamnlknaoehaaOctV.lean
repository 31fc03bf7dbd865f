/- Contracts of octet.Put, octet.Get and their references, for this seat. -/
import Derived.Test.YtebamnlknaoehaaRcV
namespace Go.Proofs.Ytebamnlknaoehaa
set_option linter.unusedVariables false
open Go.ChangeShapes Go.WideShapes Go.ChangeAt Go.RowKit

def stepU (z : Int) (c : UInt8) : Int := bits BinOp.or IntKind.u64 (IntKind.u64.wrap (z * 256)) (IntKind.u64.wrap c.toNat)
def byteAt (s : ByteArray) (i : Nat) : UInt8 := if h : i < s.size then s[i] else 0
def numU (s : ByteArray) (at' : Int) : Nat → Int
  | 0 => 0
  | k + 1 => stepU (numU s at' k) (byteAt s (at' + k).toNat)
theorem byteAt_in {s : ByteArray} {i : Nat} (h : i < s.size) : byteAt s i = s[i] := dif_pos h
theorem ret_xb {a b : Int} {c d : Bool} (h : (a, c) = (b, d)) : Ending.returned (.tuple #[.int .i64 a, .bool c]) = Ending.returned (.tuple #[.int .i64 b, .bool d]) := by cases h; rfl
def thereB (s : ByteArray) (a z : Int) : Bool := decide (0 ≤ a) && decide (0 ≤ z) && decide (a ≤ s.size) && decide (z ≤ s.size - a)
theorem there_c (s : ByteArray) (a z : Int) (hm : s.size ≤ 9223372036854775807) (ha : -9223372036854775808 ≤ a) (w : World) : Calls Try.prog 46 #[.string s, .int .i64 a, .int .i64 z] w fun e w' => e = .returned (.bool (thereB s a z)) ∧ w = w' := by
  unfold thereB
  rcases (show a < 0 ∨ (0 ≤ a ∧ z < 0) ∨ (0 ≤ a ∧ 0 ≤ z ∧ (s.size : Int) < a) ∨ (0 ≤ a ∧ 0 ≤ z ∧ a ≤ (s.size : Int)) by omega) with h | ⟨h1, h⟩ | ⟨h1, h2, h⟩ | ⟨h1, h2, h⟩
  all_goals
    go_enter Try.func46, Try.ntmps46
    go_wp2
    go_ret
    refine ⟨ret_bool ?_, rfl⟩
    rw [Bool.eq_iff_iff]
    simp
    try omega
set_option maxRecDepth 100000 in
theorem get_yes (s : ByteArray) (at' size : Int) (h1 : 1 ≤ size) (h8 : size ≤ 8) (h0 : 0 ≤ at') (h : at' + size ≤ s.size) (hm : s.size ≤ 9223372036854775807) (w : World) :
    Calls Try.prog 29 #[.string s, .int .i64 at', .int .i64 size] w fun e w' => e = .returned (.tuple #[.int .i64 (wrap64 (numU s at' size.toNat)), .bool true]) ∧ w = w' := by
  have h2 : at' ≤ s.size := by omega
  have h3 : size ≤ s.size - at' := by omega
  go_enter Try.func29, Try.ntmps29
  go_wp2
  go_loop [8, 9] (fun n i => ∃ k : Nat, (k : Int) ≤ size ∧ i = .int .i64 (at' + k) ∧ n = .int .u64 (numU s at' k)) (fun _ i => (at' + size - intOf i).toNat)
  case atStart => exact ⟨0, by omega, by simp, rfl⟩
  case round =>
    obtain ⟨k, hk, rfl, rfl⟩ := hrel
    by_cases hlt : (k : Int) < size
    · have hi : (at' + k).toNat < s.size := by omega
      have hst : numU s at' (k + 1) = stepU (numU s at' k) s[(at' + k).toNat] := by rw [numU, byteAt_in hi]
      generalize numU s at' k = z at *
      generalize hn : numU s at' (k + 1) = z2 at *
      have HS := hide hst
      have HN := hide hn
      clear hst hn
      go_wp2
      go_round
      case rel =>
        refine ⟨k + 1, by omega, by go_num, ?_⟩
        rw [HN.out, HS.out]
        rfl
      case measure => simp [intOf]; omega
    · have e : size.toNat = k := by omega
      generalize hz : numU s at' k = z at *
      have HZ := hide hz
      clear hz
      go_wp2
      go_ret2
      exact ⟨ret_xb (by rw [HZ.out]), rfl⟩
set_option maxRecDepth 100000 in
theorem rget_yes (s : ByteArray) (at' size : Int) (h1 : 1 ≤ size) (h8 : size ≤ 8) (h0 : 0 ≤ at') (h : at' + size ≤ s.size) (hm : s.size ≤ 9223372036854775807) (w : World) :
    Calls Try.prog 31 #[.string s, .int .i64 at', .int .i64 size] w fun e w' => e = .returned (.tuple #[.int .i64 (wrap64 (numU s at' size.toNat)), .bool true]) ∧ w = w' := by
  have HT : Hid (thereB s at' size = true) := by show thereB _ _ _ = true; unfold thereB; simp; omega
  go_enter Try.func31, Try.ntmps31
  go_wp2_with (first | (go_at_call 46; refine (there_c _ _ _ (by omega) (by omega) _).mono ?_; rw [HT.out]; rintro e w' ⟨rfl, rfl⟩))
  go_loop [8, 9] (fun n i => ∃ k : Nat, (k : Int) ≤ size ∧ i = .int .i64 k ∧ n = .int .u64 (numU s at' k)) (fun _ i => (size - intOf i).toNat)
  case atStart => exact ⟨0, by omega, by simp, rfl⟩
  case round =>
    obtain ⟨k, hk, rfl, rfl⟩ := hrel
    by_cases hlt : (k : Int) < size
    · have hi : (at' + k).toNat < s.size := by omega
      have hst : numU s at' (k + 1) = stepU (numU s at' k) s[(at' + k).toNat] := by rw [numU, byteAt_in hi]
      generalize numU s at' k = z at *
      generalize hn : numU s at' (k + 1) = z2 at *
      have HS := hide hst
      have HN := hide hn
      clear hst hn
      go_wp2
      go_round
      case rel =>
        refine ⟨k + 1, by omega, by go_num, ?_⟩
        rw [HN.out, HS.out]
        rfl
      case measure => simp [intOf]; omega
    · have e : size.toNat = k := by omega
      generalize hz : numU s at' k = z at *
      have HZ := hide hz
      clear hz
      go_wp2
      go_ret2
      exact ⟨ret_xb (by rw [HZ.out]), rfl⟩
theorem put6 (n : Int) (w : World) :
    Calls Try.prog 24 #[.int .i64 n, .int .i64 6] w fun e w' => e = .returned (.string (strOfNums (putL n 6))) ∧ Below w.heap.size w w' := by
  have hmk : ∀ w, (Instr.makeSlice 62 (.int .i64 6) (.int .i64 6)).run Try.prog w = .ok (.slice (some ⟨w.heap.size, 0, none⟩) 6 6) (w.alloc (.cells #[.int .u8 0, .int .u8 0, .int .u8 0, .int .u8 0, .int .u8 0, .int .u8 0] 5)) := fun _ => by kernel_rfl
  have hcv : (convert 62 9 (.slice (some ⟨w.heap.size, 0, none⟩) 6 6)).run Try.prog (w.alloc (.cells #[.int .u8 (n / 256 / 256 / 256 / 256 / 256 % 256), .int .u8 (n / 256 / 256 / 256 / 256 % 256), .int .u8 (n / 256 / 256 / 256 % 256), .int .u8 (n / 256 / 256 % 256), .int .u8 (n / 256 % 256), .int .u8 (n % 256)] 5)) = .ok (.string (strOfNums (putL n 6))) (w.alloc (.cells #[.int .u8 (n / 256 / 256 / 256 / 256 / 256 % 256), .int .u8 (n / 256 / 256 / 256 / 256 % 256), .int .u8 (n / 256 / 256 / 256 % 256), .int .u8 (n / 256 / 256 % 256), .int .u8 (n / 256 % 256), .int .u8 (n % 256)] 5)) := conv_c w [n / 256 / 256 / 256 / 256 / 256 % 256, n / 256 / 256 / 256 / 256 % 256, n / 256 / 256 / 256 % 256, n / 256 / 256 % 256, n / 256 % 256, n % 256] 5
  generalize strOfNums (putL n 6) = s at *
  go_enter Try.func24, Try.ntmps24
  go_wp2
  go_rounds 7
  go_ret
  exact ⟨rfl, Bel.one _ _⟩
theorem strOf_size (l : List Int) : (strOfNums l).size = l.length := by
  show (strOfNums l).data.size = l.length
  simp [strOfNums]
theorem ret_str {s t : ByteArray} (h : s = t) : Ending.returned (.string s) = Ending.returned (.string t) := by rw [h]
def low8 (u : Int) : Int := bits BinOp.and IntKind.u64 u 255 % 256
def putU (u : Int) : Nat → List Int
  | 0 => []
  | k + 1 => putU (u / 256) k ++ [low8 u]
theorem putU_front : ∀ (k : Nat) (u : Int), putU u (k + 1) = low8 (dv u k) :: putU u k
  | 0, _ => rfl
  | k + 1, u => by
    rw [putU, putU_front k (u / 256), dv_in]
    rfl
theorem putU_len : ∀ (k : Nat) (u : Int), (putU u k).length = k
  | 0, _ => rfl
  | k + 1, u => by rw [putU, List.length_append, putU_len k]; rfl
set_option maxHeartbeats 1000000 in
theorem rput_yes (n size : Int) (h0 : 0 ≤ size) (h8 : size ≤ 8) (w : World) :
    Calls Try.prog 27 #[.int .i64 n, .int .i64 size] w fun e w' => e = .returned (.string (strOfNums (putU (IntKind.u64.wrap n) size.toNat))) ∧ Below w.heap.size w w' := by
  generalize hu : IntKind.u64.wrap n = u at *
  go_enter Try.func27, Try.ntmps27
  go_wp2
  go_loopw [5, 6, 7] (fun o v i wr => ∃ k : Nat, (k : Int) ≤ size ∧ i = .int .i64 k ∧ v = .int .u64 (dv u k) ∧ o = .string (strOfNums (putU u k)) ∧ Below w.heap.size w wr) (fun _ _ i _ => (size - intOf i).toNat)
  case atStart => exact ⟨0, by omega, rfl, rfl, rfl, Below.refl _ _⟩
  case round =>
    obtain ⟨k, hk, rfl, rfl, rfl, hB⟩ := hrel
    have HB := hide hB
    clear hB
    by_cases hlt : (k : Int) < size
    · have hn : strOfNums (putU u (k + 1)) = strOfNums [low8 (dv u k)] ++ strOfNums (putU u k) := by rw [putU_front, strOf_cons]
      have hd : dv u (k + 1) = dv u k / 256 := rfl
      have hs1 : ((strOfNums (putU u k)).size : Int) ≤ 8388608 := by rw [strOf_size, putU_len]; omega
      have hs2 : ((strOfNums [low8 (dv u k)]).size : Int) ≤ 8388608 := by rw [strOf_size]; simp
      have hcv := conv_c wr [low8 (dv u k)] 5
      simp only [List.map_cons, List.map_nil, List.length_cons, List.length_nil, Nat.zero_add] at hcv
      generalize strOfNums (putU u k) = so at *
      generalize strOfNums [low8 (dv u k)] = sx at *
      generalize hsn : strOfNums (putU u (k + 1)) = sn at *
      generalize hv2 : dv u (k + 1) = v2 at *
      generalize dv u k = v at *
      generalize hl : low8 v = x at *
      unfold low8 at hl
      have HN := hide hn
      have HD := hide hd
      have HSN := hide hsn
      have HV2 := hide hv2
      clear hn hd hsn hv2
      go_wp2
      go_round
      case rel =>
        refine ⟨k + 1, by omega, by go_num, ?_, ?_, Bel.then HB.out (Bel.one _ _)⟩
        · rw [HV2.out, HD.out]
        · rw [HSN.out, HN.out]
      case measure => simp [intOf]; omega
    · have e : size.toNat = k := by omega
      go_wp2
      go_ret
      refine ⟨ret_str ?_, HB.out⟩
      rfl
theorem low8_mod (u : Int) : low8 u = u % 256 := by
  have h : (BitVec.ofInt 64 u &&& BitVec.ofInt 64 255).toNat = (BitVec.ofInt 64 u).toNat % 256 := by
    rw [BitVec.toNat_and]
    exact Nat.and_two_pow_sub_one_eq_mod _ 8
  have e : low8 u = IntKind.wrap .u64 ((BitVec.ofInt 64 u &&& BitVec.ofInt 64 255).toNat : Int) % 256 := rfl
  rw [e, h, BitVec.toNat_ofInt]
  have e2 : ∀ n : Nat, n < 256 → IntKind.wrap .u64 (n : Int) = n := by
    intro n hn
    unfold IntKind.wrap
    simp [IntKind.bits, IntKind.signed]
    omega
  rw [e2 _ (by omega)]
  omega
theorem putU_L : ∀ (k : Nat) (u : Int), putU u k = putL u k
  | 0, _ => rfl
  | k + 1, u => by rw [putU, putL, putU_L k, low8_mod]
theorem wrap64_mod (n : Int) : IntKind.u64.wrap n = n % 256 ^ 8 := by
  unfold IntKind.wrap
  simp [IntKind.bits, IntKind.signed]
theorem put_same (n : Int) (k : Nat) (h : k ≤ 8) : putU (IntKind.u64.wrap n) k = putL n k := by
  rw [putU_L, wrap64_mod, putL_mod k 8 n h]
theorem wrapu (z : Int) (h0 : 0 ≤ z) (h1 : z < 18446744073709551616) : IntKind.wrap .u64 z = z := by
  unfold IntKind.wrap
  simp [IntKind.bits, IntKind.signed]
  omega
theorem stepU_add (z : Int) (c : UInt8) (h0 : 0 ≤ z) (h1 : z < 72057594037927936) : stepU z c = z * 256 + c.toNat := by
  have hc := c.toNat_lt
  obtain ⟨m, rfl⟩ : ∃ m : Nat, z = m := ⟨z.toNat, by omega⟩
  unfold stepU
  rw [wrapu _ (by omega) (by omega), wrapu _ (by omega) (by omega)]
  have e : bits BinOp.or IntKind.u64 ((m : Int) * 256) (c.toNat : Int) = IntKind.wrap .u64 ((BitVec.ofInt 64 ((m : Int) * 256) ||| BitVec.ofInt 64 (c.toNat : Int)).toNat : Int) := rfl
  rw [e, BitVec.toNat_or, BitVec.toNat_ofInt, BitVec.toNat_ofInt]
  have e1 : (((m : Int) * 256) % ((2 : Nat) ^ 64 : Nat)).toNat = 2 ^ 8 * m := by omega
  have e2 : ((c.toNat : Int) % ((2 : Nat) ^ 64 : Nat)).toNat = c.toNat := by omega
  rw [e1, e2, ← Nat.two_pow_add_eq_or_of_lt (by omega) m, wrapu _ (by omega) (by omega)]
  omega
end Go.Proofs.Ytebamnlknaoehaa

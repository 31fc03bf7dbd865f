/- Contracts of the reference: the eight bytes of a number, the number of eight bytes. -/
import Derived.Test.YtiealokabmjfjaaKcD
import Derived.Handy
namespace Go.Proofs.Ytiealokabmjfjaa
set_option linter.unusedVariables false
open Go.ChangeShapes Go.WideShapes Go.ChangeAt Go.RowKit

def bC (b : UInt8) : List Value := [.int .u8 b.toNat]
theorem bC_len (b : UInt8) : (bC b).length = 1 := rfl
theorem bC_flat : ∀ l : List UInt8, (l.map bC).flatten = l.map (fun b => Value.int .u8 (b.toNat : Int))
  | [] => rfl
  | b :: l => by rw [List.map_cons, List.flatten_cons, bC_flat l]; rfl
abbrev BsAt := SlAt bC 1
/-- A slice of bytes that is there. -/
def GivesBs (w : World) (l : List UInt8) (e : Ending) (w' : World) : Prop := ∃ A c, e = .returned (.slice A l.length c) ∧ BsAt w' w'.heap.size A l.length c l ∧ Below w.heap.size w w'
theorem bC_nums (l : List Int) (h : ∀ x ∈ l, x % 256 = x) : l.map (Value.int .u8) = ((l.map byteOf).map bC).flatten := by
  rw [bC_flat, List.map_map]
  refine List.map_congr_left fun x hx => ?_
  show Value.int .u8 x = Value.int .u8 ((byteOf x).toNat : Int)
  have := byteOf_toNat x
  rw [h x hx] at this
  rw [this]
theorem putL_mods : ∀ (k : Nat) (n : Int), ∀ x ∈ putL n k, x % 256 = x
  | 0, _, x, h => by cases h
  | k + 1, n, x, h => by
    rw [putL] at h
    rcases List.mem_append.1 h with h | h
    · exact putL_mods k _ x h
    · rw [List.mem_singleton.1 h]; exact Int.emod_emod_of_dvd n (Int.dvd_refl 256)
theorem u64_range (n : Int) : 0 ≤ IntKind.u64.wrap n ∧ IntKind.u64.wrap n < 18446744073709551616 := by
  have : IntKind.u64.wrap n = n % 18446744073709551616 := by
    unfold IntKind.wrap
    simp [IntKind.bits, IntKind.signed]
  rw [this]
  omega
theorem div_step (u : Int) (h : 0 ≤ u ∧ u < 18446744073709551616) : IntKind.u64.wrap (u.tdiv 256) = u / 256 ∧ (0 ≤ u / 256 ∧ u / 256 < 18446744073709551616) := by
  refine ⟨?_, by omega⟩
  rw [Int.tdiv_eq_ediv_of_nonneg h.1]
  unfold IntKind.wrap
  simp [IntKind.bits, IntKind.signed]
  omega
theorem mod_step8 (u : Int) (h : 0 ≤ u ∧ u < 18446744073709551616) : u.tmod 256 % 256 = u % 256 := by
  rw [Int.tmod_eq_emod_of_nonneg h.1]
  omega
set_option maxRecDepth 100000 in
set_option maxHeartbeats 1000000 in
theorem eight_c (n : Int) (w : World) : Calls Try.prog 42 #[.int .i64 n] w (GivesBs w (key8 n)) := by
  have hk := key8_u n
  have hu := u64_range (IntKind.u64.wrap n + 9223372036854775808)
  have hmk : ∀ w, (Instr.makeSlice 43 (.int .i64 8) (.int .i64 8)).run Try.prog w = .ok (.slice (some ⟨w.heap.size, 0, none⟩) 8 8) (w.alloc (.cells #[.int .u8 0, .int .u8 0, .int .u8 0, .int .u8 0, .int .u8 0, .int .u8 0, .int .u8 0, .int .u8 0] 5)) := fun _ => by kernel_rfl
  have HK := hide hk
  have HU := hide hu
  clear hk hu
  go_enter Try.func42, Try.ntmps42
  go_wp2
  go_rounds 9
  go_ret
  unfold GivesBs
  rw [key8_len]
  refine ⟨_, _, rfl, sl_lit w _ 5 (key8_len n) bC_len ?_ (by unfold maxLen; omega), Bel.one _ _⟩
  rw [← HK.out]
  have hu := HU.out
  generalize IntKind.u64.wrap (IntKind.u64.wrap n + 9223372036854775808) = u at *
  obtain ⟨a1, b1⟩ := div_step u hu
  obtain ⟨a2, b2⟩ := div_step _ b1
  obtain ⟨a3, b3⟩ := div_step _ b2
  obtain ⟨a4, b4⟩ := div_step _ b3
  obtain ⟨a5, b5⟩ := div_step _ b4
  obtain ⟨a6, b6⟩ := div_step _ b5
  obtain ⟨a7, b7⟩ := div_step _ b6
  rw [a1, a2, a3, a4, a5, a6, a7, mod_step8 _ hu, mod_step8 _ b1, mod_step8 _ b2, mod_step8 _ b3, mod_step8 _ b4, mod_step8 _ b5, mod_step8 _ b6, mod_step8 _ b7]
  exact bC_nums (putL u 8) (putL_mods 8 u)
theorem rnumber_c (s : ByteArray) (w : World) (h8 : 8 ≤ s.size) : Calls Try.prog 36 #[.string s] w fun e w' => e = .returned (.int .i64 (numK (s.data.toList.take 8))) ∧ w = w' := by
  have hl := str_len s
  go_enter Try.func36, Try.ntmps36
  go_wp2_with fail
  go_loop [3, 4] (fun v i => ∃ k : Nat, k ≤ 8 ∧ i = .int .i64 k ∧ v = .int .u64 (foldB (s.data.toList.take k))) (fun _ i => (8 - intOf i).toNat)
  case atStart => exact ⟨0, by omega, rfl, rfl⟩
  case round =>
    obtain ⟨k, hk, rfl, rfl⟩ := hrel
    by_cases hlt : k < 8
    · have hs : k < s.size := by omega
      have HS := hide (fold_take (str_get hs))
      have hr := fold_small s.data.toList k (by omega)
      obtain ⟨hr0, hr1⟩ := hr
      have hc := s[k].toNat_lt
      generalize foldB (s.data.toList.take k) = y at *
      go_wp2
      go_round
      case rel => exact ⟨k + 1, by omega, by go_num, by rw [HS.out, Int.mul_comm]⟩
      case measure => simp [intOf]; omega
    · obtain rfl : k = 8 := by omega
      have hr := foldB_range 8 (s.data.toList.take 8) (by rw [List.length_take]; omega)
      have h3 : (256 : Int) ^ 8 = 18446744073709551616 := by decide
      rw [h3] at hr
      have hw := numK_wrap _ hr.1 hr.2
      have HNK := hide (show numK (s.data.toList.take 8) = foldB (s.data.toList.take 8) - 9223372036854775808 from rfl)
      generalize foldB (s.data.toList.take 8) = y at *
      have HW := hide hw
      clear hw hr
      go_wp2
      go_ret
      exact ⟨ret_int (by rw [HNK.out]; exact (wrap64_eq _).trans HW.out), rfl⟩
end Go.Proofs.Ytiealokabmjfjaa

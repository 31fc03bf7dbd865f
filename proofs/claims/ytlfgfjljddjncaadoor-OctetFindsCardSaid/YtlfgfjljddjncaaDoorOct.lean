/- Contracts of octet.Get and its reference. -/
import Derived.Test.YtlfgfjljddjncaaDoorRows
import Derived.Test.YtlfgfjljddjncaaDoorLib
namespace Go.Proofs.YtlfgfjljddjncaaDoor
set_option linter.unusedVariables false
open Go.ChangeShapes Go.WideShapes Go.ChangeAt Go.RowKit

theorem str_take (s : ByteArray) (k : Nat) (h : k < s.size) : s.data.toList.take (k + 1) = s.data.toList.take k ++ [s[k]] := by
  rw [List.take_succ_eq_append_getElem (by simpa using h)]; rfl
theorem str_len (s : ByteArray) : s.data.toList.length = s.size := by rw [Array.length_toList]; rfl
def stepU (z : Int) (c : UInt8) : Int := bits BinOp.or IntKind.u64 (IntKind.u64.wrap (z * 256)) (IntKind.u64.wrap c.toNat)
def byteAt (s : ByteArray) (i : Nat) : UInt8 := if h : i < s.size then s[i] else 0
def numU (s : ByteArray) (at' : Int) : Nat → Int
  | 0 => 0
  | k + 1 => stepU (numU s at' k) (byteAt s (at' + k).toNat)
def getP (s : ByteArray) (at' size : Int) : Int × Bool := if 1 ≤ size ∧ size ≤ 8 ∧ 0 ≤ at' ∧ at' + size ≤ s.size then (wrap64 (numU s at' size.toNat), true) else (0, false)
theorem byteAt_in {s : ByteArray} {i : Nat} (h : i < s.size) : byteAt s i = s[i] := dif_pos h
theorem ret_xb {a b : Int} {c d : Bool} (h : (a, c) = (b, d)) : Ending.returned (.tuple #[.int .i64 a, .bool c]) = Ending.returned (.tuple #[.int .i64 b, .bool d]) := by cases h; rfl
def thereB (s : ByteArray) (a z : Int) : Bool := decide (0 ≤ a) && decide (0 ≤ z) && decide (a ≤ s.size) && decide (z ≤ s.size - a)
theorem there_c (s : ByteArray) (a z : Int) (hm : s.size ≤ 9223372036854775807) (ha : -9223372036854775808 ≤ a) (w : World) : Calls Tryd.prog 24 #[.string s, .int .i64 a, .int .i64 z] w fun e w' => e = .returned (.bool (thereB s a z)) ∧ w = w' := by
  unfold thereB
  rcases (show a < 0 ∨ (0 ≤ a ∧ z < 0) ∨ (0 ≤ a ∧ 0 ≤ z ∧ (s.size : Int) < a) ∨ (0 ≤ a ∧ 0 ≤ z ∧ a ≤ (s.size : Int)) by omega) with h | ⟨h1, h⟩ | ⟨h1, h2, h⟩ | ⟨h1, h2, h⟩
  all_goals
    go_enter Tryd.func24, Tryd.ntmps24
    go_wp2
    go_ret
    refine ⟨ret_bool ?_, rfl⟩
    rw [Bool.eq_iff_iff]
    simp
    try omega
set_option maxRecDepth 100000 in
theorem get_yes (s : ByteArray) (at' size : Int) (h1 : 1 ≤ size) (h8 : size ≤ 8) (h0 : 0 ≤ at') (h : at' + size ≤ s.size) (hm : s.size ≤ 9223372036854775807) (w : World) :
    Calls Tryd.prog 11 #[.string s, .int .i64 at', .int .i64 size] w fun e w' => e = .returned (.tuple #[.int .i64 (wrap64 (numU s at' size.toNat)), .bool true]) ∧ w = w' := by
  have h2 : at' ≤ s.size := by omega
  have h3 : size ≤ s.size - at' := by omega
  go_enter Tryd.func11, Tryd.ntmps11
  go_wp2
  go_loop [8, 9] (fun n i => ∃ k : Nat, (k : Int) ≤ size ∧ i = .int .i64 (at' + k) ∧ n = .int .u64 (numU s at' k)) (fun _ i => (at' + size - intOf i).toNat)
  case atStart => exact ⟨0, by omega, by simp, rfl⟩
  case round =>
    obtain ⟨k, hk, rfl, rfl⟩ := hrel
    by_cases hlt : (k : Int) < size
    · have hi : (at' + k).toNat < s.size := by omega
      have hst : numU s at' (k + 1) = stepU (numU s at' k) s[(at' + k).toNat] := by rw [numU, byteAt_in hi]
      generalize numU s at' k = z at *
      generalize hn : numU s at' (k + 1) = z2 at *
      have HS := hide hst
      have HN := hide hn
      clear hst hn
      go_wp2
      go_round
      case rel =>
        refine ⟨k + 1, by omega, by go_num, ?_⟩
        rw [HN.out, HS.out]
        rfl
      case measure => simp [intOf]; omega
    · have e : size.toNat = k := by omega
      generalize hz : numU s at' k = z at *
      have HZ := hide hz
      clear hz
      go_wp2
      go_ret2
      exact ⟨ret_xb (by rw [HZ.out]), rfl⟩
set_option maxRecDepth 100000 in
theorem rget_yes (s : ByteArray) (at' size : Int) (h1 : 1 ≤ size) (h8 : size ≤ 8) (h0 : 0 ≤ at') (h : at' + size ≤ s.size) (hm : s.size ≤ 9223372036854775807) (w : World) :
    Calls Tryd.prog 12 #[.string s, .int .i64 at', .int .i64 size] w fun e w' => e = .returned (.tuple #[.int .i64 (wrap64 (numU s at' size.toNat)), .bool true]) ∧ w = w' := by
  have HT : Hid (thereB s at' size = true) := by show thereB _ _ _ = true; unfold thereB; simp; omega
  go_enter Tryd.func12, Tryd.ntmps12
  go_wp2_with (first | (go_at_call 24; refine (there_c _ _ _ (by omega) (by omega) _).mono ?_; rw [HT.out]; rintro e w' ⟨rfl, rfl⟩))
  go_loop [8, 9] (fun n i => ∃ k : Nat, (k : Int) ≤ size ∧ i = .int .i64 k ∧ n = .int .u64 (numU s at' k)) (fun _ i => (size - intOf i).toNat)
  case atStart => exact ⟨0, by omega, by simp, rfl⟩
  case round =>
    obtain ⟨k, hk, rfl, rfl⟩ := hrel
    by_cases hlt : (k : Int) < size
    · have hi : (at' + k).toNat < s.size := by omega
      have hst : numU s at' (k + 1) = stepU (numU s at' k) s[(at' + k).toNat] := by rw [numU, byteAt_in hi]
      generalize numU s at' k = z at *
      generalize hn : numU s at' (k + 1) = z2 at *
      have HS := hide hst
      have HN := hide hn
      clear hst hn
      go_wp2
      go_round
      case rel =>
        refine ⟨k + 1, by omega, by go_num, ?_⟩
        rw [HN.out, HS.out]
        rfl
      case measure => simp [intOf]; omega
    · have e : size.toNat = k := by omega
      generalize hz : numU s at' k = z at *
      have HZ := hide hz
      clear hz
      go_wp2
      go_ret2
      exact ⟨ret_xb (by rw [HZ.out]), rfl⟩
theorem not_cases {n a z : Int} (hn : 0 ≤ n) (h : ¬ (1 ≤ z ∧ z ≤ 8 ∧ 0 ≤ a ∧ a + z ≤ n)) : z < 1 ∨ (1 ≤ z ∧ 8 < z) ∨ (1 ≤ z ∧ z ≤ 8 ∧ a < 0) ∨ (1 ≤ z ∧ z ≤ 8 ∧ 0 ≤ a ∧ n < a) ∨ (1 ≤ z ∧ z ≤ 8 ∧ 0 ≤ a ∧ a ≤ n ∧ n - a < z) := by omega
theorem get_no (s : ByteArray) (at' size : Int) (hn : ¬ (1 ≤ size ∧ size ≤ 8 ∧ 0 ≤ at' ∧ at' + size ≤ s.size)) (hm : s.size ≤ 9223372036854775807) (w : World) :
    Calls Tryd.prog 11 #[.string s, .int .i64 at', .int .i64 size] w fun e w' => e = .returned (.tuple #[.int .i64 0, .bool false]) ∧ w = w' := by
  rcases not_cases (by omega) hn with h | ⟨h1, h⟩ | ⟨h1, h2, h⟩ | ⟨h1, h2, h3, h⟩ | ⟨h1, h2, h3, h4, h⟩
  all_goals
    clear hn
    go_enter Tryd.func11, Tryd.ntmps11
    go_wp2
    go_ret2
    exact ⟨rfl, rfl⟩
theorem rget_no (s : ByteArray) (at' size : Int) (hn : ¬ (1 ≤ size ∧ size ≤ 8 ∧ 0 ≤ at' ∧ at' + size ≤ s.size)) (hm : s.size ≤ 9223372036854775807) (ha : -9223372036854775808 ≤ at') (w : World) :
    Calls Tryd.prog 12 #[.string s, .int .i64 at', .int .i64 size] w fun e w' => e = .returned (.tuple #[.int .i64 0, .bool false]) ∧ w = w' := by
  rcases not_cases (by omega) hn with h | ⟨h1, h⟩ | ⟨h1, h2, h⟩ | ⟨h1, h2, h3, h⟩ | ⟨h1, h2, h3, h4, h⟩
  all_goals
    clear hn
    try (have HT : Hid (thereB s at' size = false) := by show thereB _ _ _ = false; unfold thereB; simp; omega)
    go_enter Tryd.func12, Tryd.ntmps12
    go_wp2_with (first | (go_at_call 24; refine (there_c _ _ _ (by omega) (by omega) _).mono ?_; rw [HT.out]; rintro e w' ⟨rfl, rfl⟩))
    go_ret2
    exact ⟨rfl, rfl⟩
theorem get_c (s : ByteArray) (at' size : Int) (hm : s.size ≤ 9223372036854775807) (w : World) :
    Calls Tryd.prog 11 #[.string s, .int .i64 at', .int .i64 size] w fun e w' => e = .returned (.tuple #[.int .i64 (getP s at' size).1, .bool (getP s at' size).2]) ∧ w = w' := by
  unfold getP
  by_cases h : 1 ≤ size ∧ size ≤ 8 ∧ 0 ≤ at' ∧ at' + size ≤ s.size
  · rw [if_pos h]
    exact get_yes s at' size h.1 h.2.1 h.2.2.1 h.2.2.2 hm w
  · rw [if_neg h]
    exact get_no s at' size h hm w
theorem rget_c (s : ByteArray) (at' size : Int) (hm : s.size ≤ 9223372036854775807) (ha : -9223372036854775808 ≤ at') (w : World) :
    Calls Tryd.prog 12 #[.string s, .int .i64 at', .int .i64 size] w fun e w' => e = .returned (.tuple #[.int .i64 (getP s at' size).1, .bool (getP s at' size).2]) ∧ w = w' := by
  unfold getP
  by_cases h : 1 ≤ size ∧ size ≤ 8 ∧ 0 ≤ at' ∧ at' + size ≤ s.size
  · rw [if_pos h]
    exact rget_yes s at' size h.1 h.2.1 h.2.2.1 h.2.2.2 hm w
  · rw [if_neg h]
    exact rget_no s at' size h hm ha w
end Go.Proofs.YtlfgfjljddjncaaDoor

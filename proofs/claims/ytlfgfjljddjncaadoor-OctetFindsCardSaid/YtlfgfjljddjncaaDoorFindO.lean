/- What Open says of sealed bytes of which some bits were turned. No walk. -/
import Derived.Test.YtlfgfjljddjncaaDoorFindB
namespace Go.Proofs.YtlfgfjljddjncaaDoor
set_option linter.unusedVariables false
open Go.ChangeShapes Go.WideShapes Go.ChangeAt Go.RowKit

/-- What Turned gives. -/
def maskN (n at' : Nat) (mask : Nat) : Nat := mask % 2 ^ (min 32 (8 * n - at'))
def turnP (s : ByteArray) (a : Int) (mask : Nat) : ByteArray := if 0 ≤ a ∧ a < 8 * s.size then ⟨(turnL s.data.toList (maskN s.size a.toNat mask * 2 ^ a.toNat)).toArray⟩ else s
theorem turnP_list (s : ByteArray) (a : Int) (mask : Nat) (h : 0 ≤ a ∧ a < 8 * s.size) : (turnP s a mask).data.toList = turnL s.data.toList (maskN s.size a.toNat mask * 2 ^ a.toNat) := by
  unfold turnP
  rw [if_pos h]
theorem turnP_size (s : ByteArray) (a : Int) (mask : Nat) : (turnP s a mask).size = s.size := by
  unfold turnP
  split
  · show (turnL s.data.toList _).toArray.size = s.size
    rw [List.size_toArray, turnL_len, str_len]
  · rfl
theorem pow_256 (n : Nat) : 256 ^ n = 2 ^ (8 * n) := by rw [show (256 : Nat) = 2 ^ 8 from rfl, ← Nat.pow_mul]
theorem mask_fits (n a mask : Nat) (h : a < 8 * n) : maskN n a mask < 4294967296 ∧ maskN n a mask * 2 ^ a < 256 ^ n := by
  have h1 : maskN n a mask < 2 ^ (min 32 (8 * n - a)) := Nat.mod_lt _ (Nat.two_pow_pos _)
  refine ⟨Nat.lt_of_lt_of_le h1 (Nat.pow_le_pow_right (by omega) (show min 32 (8 * n - a) ≤ 32 by omega)), ?_⟩
  rw [pow_256, show 8 * n = (8 * n - a) + a by omega, Nat.pow_add]
  refine (Nat.mul_lt_mul_right (Nat.two_pow_pos a)).2 (Nat.lt_of_lt_of_le h1 (Nat.pow_le_pow_right (by omega) (by omega)))
theorem turnP_sum (s : ByteArray) (a : Int) (mask : Nat) (he : sumP (turnP s a mask) = sumP s) : turnP s a mask = s := by
  by_cases h : 0 ≤ a ∧ a < 8 * s.size
  · have hm := mask_fits s.size a.toNat mask (by omega)
    exact turned_sum s _ _ a.toNat hm.1 (by omega) hm.2 (turnP_list s a mask h) he
  · unfold turnP
    rw [if_neg h]
def valP (p : ByteArray) : Int := p.data.toList.foldl stepU 0
theorem val_four (a b c d : UInt8) : [a, b, c, d].foldl stepU 0 = ((a.toNat * 256 + b.toNat) * 256 + c.toNat) * 256 + d.toNat := by
  have ha := a.toNat_lt; have hb := b.toNat_lt; have hc := c.toNat_lt
  simp only [List.foldl_cons, List.foldl_nil]
  rw [stepU_add 0 a (by omega) (by omega), stepU_add _ b (by omega) (by omega), stepU_add _ c (by omega) (by omega), stepU_add _ d (by omega) (by omega)]
  omega
theorem four_list (p : ByteArray) (h : p.size = 4) : ∃ a b c d, p.data.toList = [a, b, c, d] := by
  have hl := str_len p
  rw [h] at hl
  match p.data.toList, hl with
  | [a, b, c, d], _ => exact ⟨a, b, c, d, rfl⟩
theorem val_inj (p q : ByteArray) (hp : p.size = 4) (hq : q.size = 4) (h : valP p = valP q) : p = q := by
  obtain ⟨a, b, c, d, e1⟩ := four_list p hp
  obtain ⟨a', b', c', d', e2⟩ := four_list q hq
  unfold valP at h
  rw [e1, e2, val_four, val_four] at h
  have := a.toNat_lt; have := b.toNat_lt; have := c.toNat_lt; have := d.toNat_lt
  have := a'.toNat_lt; have := b'.toNat_lt; have := c'.toNat_lt; have := d'.toNat_lt
  apply ByteArray.ext
  apply Array.ext'
  rw [e1, e2]
  have k1 : a.toNat = a'.toNat := by omega
  have k2 : b.toNat = b'.toNat := by omega
  have k3 : c.toNat = c'.toNat := by omega
  have k4 : d.toNat = d'.toNat := by omega
  rw [UInt8.toNat_inj.1 k1, UInt8.toNat_inj.1 k2, UInt8.toNat_inj.1 k3, UInt8.toNat_inj.1 k4]
theorem val_range (p : ByteArray) (h : p.size = 4) : 0 ≤ valP p ∧ valP p < 4294967296 := by
  obtain ⟨a, b, c, d, e1⟩ := four_list p h
  unfold valP
  rw [e1, val_four]
  have := a.toNat_lt; have := b.toNat_lt; have := c.toNat_lt; have := d.toNat_lt
  omega
theorem cut_front (p u : ByteArray) (h : p.size = 4) : (p ++ u).extract 0 4 = p := by
  apply ByteArray.ext
  rw [ByteArray.data_extract]
  apply Array.ext'
  rw [Array.toList_extract, ByteArray.data_append, Array.toList_append, List.extract_eq_take_drop, List.drop_zero]
  exact List.take_left' (by rw [str_len, h])
theorem cut_back (p u : ByteArray) (h : p.size = 4) : (p ++ u).extract 4 (p ++ u).size = u := by
  apply ByteArray.ext
  rw [ByteArray.data_extract]
  apply Array.ext'
  have hl := str_len p
  have hu := str_len u
  rw [Array.toList_extract, ByteArray.data_append, Array.toList_append, List.extract_eq_take_drop, ByteArray.size_append, List.drop_left' (by omega)]
  exact List.take_of_length_le (by omega)
theorem open_parts (p u : ByteArray) (h : p.size = 4) : openP (p ++ u) = if valP p = sumP u then (u, true) else (⟨#[]⟩, false) := by
  have hv := val_range p h
  have hg : getP (p ++ u) 0 4 = (valP p, true) := by
    unfold getP
    rw [if_pos (by rw [ByteArray.size_append]; omega), show (4 : Int).toNat = 4 from rfl, numU_take _ 4 (by rw [ByteArray.size_append]; omega), ByteArray.data_append, Array.toList_append, List.take_left' (by rw [str_len, h])]
    show (wrap64 (valP p), true) = _
    rw [IntWalk.wrap64_in _ (by omega)]
  unfold openP
  rw [hg, cut_back p u h]
  by_cases he : valP p = sumP u
  · simp [he]
  · simp [he]
/-- The four bytes ahead of what is sealed. -/
def headP (s : ByteArray) : ByteArray := strOfNums (putL (sumP s) 4)
theorem head_size (s : ByteArray) : (headP s).size = 4 := by unfold headP; rw [strOf_size, putL_len]
theorem seal_head (s : ByteArray) : sealP s = headP s ++ s := rfl
theorem head_val (s : ByteArray) : valP (headP s) = sumP s := by
  have hr := sumP_range s
  unfold valP headP
  rw [strOf_list, foldU_put 4 _ (by omega)]
  omega
theorem open_turned (s : ByteArray) (a : Int) (mask : Nat) : openP (headP s ++ turnP s a mask) = if turnP s a mask = s then (turnP s a mask, true) else (⟨#[]⟩, false) := by
  rw [open_parts _ _ (head_size s), head_val]
  by_cases h : turnP s a mask = s
  · rw [if_pos h, if_pos (by rw [h])]
  · rw [if_neg h, if_neg (fun e => h (turnP_sum s a mask e.symm))]
theorem open_head (s q : ByteArray) (hq : q.size = 4) : openP (q ++ s) = if q = headP s then (s, true) else (⟨#[]⟩, false) := by
  rw [open_parts _ _ hq]
  by_cases h : q = headP s
  · rw [if_pos h, if_pos (by rw [h, head_val])]
  · rw [if_neg h, if_neg (fun e => h (val_inj _ _ hq (head_size s) (by rw [e, head_val])))]
end Go.Proofs.YtlfgfjljddjncaaDoor

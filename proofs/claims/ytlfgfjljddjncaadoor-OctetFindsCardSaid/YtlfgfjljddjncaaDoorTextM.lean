/- A text that was put is got, whatever stands about it. No walk. -/
import Derived.Test.YtlfgfjljddjncaaDoorText
namespace Go.Proofs.YtlfgfjljddjncaaDoor
set_option linter.unusedVariables false
open Go.ChangeShapes Go.WideShapes Go.ChangeAt Go.RowKit

theorem byteAt_list (s : ByteArray) (i : Nat) : byteAt s i = s.data.toList.getD i 0 := by
  unfold byteAt
  have hl := str_len s
  split
  · rename_i h
    rw [List.getD_eq_getElem?_getD, List.getElem?_eq_getElem (by omega)]; rfl
  · rename_i h
    rw [List.getD_eq_getElem?_getD, List.getElem?_eq_none (by omega)]; rfl
def bigP (s m : ByteArray) : ByteArray := m ++ ptP s ++ m
theorem big_list (s m : ByteArray) : (bigP s m).data.toList = m.data.toList ++ ((putL (cutS s).size 2).map byteOf ++ ((cutS s).data.toList ++ m.data.toList)) := by
  unfold bigP ptP
  simp only [ByteArray.data_append, Array.toList_append, strOf_list, List.append_assoc]
theorem big_size (s m : ByteArray) : (bigP s m).size = m.size + 2 + (cutS s).size + m.size := by
  have h := congrArg List.length (big_list s m)
  simp only [List.length_append, List.length_map, putL_len, str_len] at h
  omega
theorem big_get (s m : ByteArray) : getP (bigP s m) m.size 2 = (((cutS s).size : Int), true) := by
  have hc := cutS_size s
  have hz := big_size s m
  unfold getP
  rw [if_pos (by omega)]
  have e : numU (bigP s m) m.size (2 : Int).toNat = numU (strOfNums (putL (cutS s).size 2)) 0 2 := by
    have b : ∀ i : Nat, i < 2 → byteAt (bigP s m) ((m.size : Int) + i).toNat = byteAt (strOfNums (putL (cutS s).size 2)) ((0 : Int) + i).toNat := by
      intro i hi
      rw [byteAt_list, byteAt_list, big_list, strOf_list, show ((m.size : Int) + i).toNat = m.data.toList.length + i by rw [str_len]; omega, show ((0 : Int) + i).toNat = i by omega]
      rw [List.getD_eq_getElem?_getD, List.getD_eq_getElem?_getD, List.getElem?_append_right (by omega), Nat.add_sub_cancel_left, List.getElem?_append_left (by rw [List.length_map, putL_len]; omega)]
    show stepU (stepU 0 _) _ = stepU (stepU 0 _) _
    rw [b 0 (by omega), b 1 (by omega)]
  rw [e, got _ 2 (by omega)]
  have : ((cutS s).size : Int) % 256 ^ 2 = (cutS s).size := by omega
  rw [this, IntWalk.wrap64_in _ (by omega)]
theorem big_cut (s m : ByteArray) : (bigP s m).extract ((m.size : Int) + 2).toNat ((m.size : Int) + 2 + (cutS s).size).toNat = cutS s := by
  have hl := str_len m
  have hp : ((putL (cutS s).size 2).map byteOf).length = 2 := by rw [List.length_map, putL_len]
  have hz := str_len (cutS s)
  have hb := big_list s m
  apply ByteArray.ext
  rw [ByteArray.data_extract]
  apply Array.ext'
  rw [Array.toList_extract, hb]
  generalize (putL (cutS s).size 2).map byteOf = p at *
  rw [show ((m.size : Int) + 2).toNat = m.data.toList.length + p.length by omega, show ((m.size : Int) + 2 + (cutS s).size).toNat = m.data.toList.length + p.length + (cutS s).data.toList.length by omega]
  rw [← List.append_assoc, List.extract_eq_take_drop, ← List.length_append, List.drop_left, Nat.add_sub_cancel_left, List.take_left]
theorem big_text (s m : ByteArray) : gtP (bigP s m) m.size = (cutS s, (m.size : Int) + 2 + (cutS s).size, true) := by
  have hz := big_size s m
  unfold gtP
  rw [big_get]
  simp only
  rw [if_pos (by simp; omega), big_cut]
end Go.Proofs.YtlfgfjljddjncaaDoor

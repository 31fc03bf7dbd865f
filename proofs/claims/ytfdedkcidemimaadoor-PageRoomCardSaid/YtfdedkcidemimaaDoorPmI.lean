/- Pages: the sum of bytes of which one is another. No walk. -/
import Derived.Test.YtfdedkcidemimaaDoorPmF
import Derived.Test.YtfdedkcidemimaaDoorLibAll
namespace Go.Proofs.YtfdedkcidemimaaDoor
set_option linter.unusedVariables false
open Go.ChangeShapes Go.WideShapes Go.ChangeAt Go.RowKit

theorem step_nat (z : Nat) (c : UInt8) (h : z < 4294967296) : stepS (z : Int) c = ((Nat.repeat stepN 8 (z ^^^ c.toNat) : Nat) : Int) := by
  have hc := c.toNat_lt
  have hx := xor64 z c.toNat h (by omega)
  obtain ⟨v, h1, h2, h3⟩ := step_same z c h
  obtain ⟨u, g1, g2, g3⟩ := stepsR_nat 8 _ hx.2
  rw [h1, ← g3, ← g1, ← h2]
  unfold rstep rin
  rw [wrapu _ (by omega) (by omega), hx.1]
theorem sumL_nat : ∀ (l : List UInt8) (z : Nat), z < 4294967296 → l.foldl stepS (z : Int) = (sumN z (l.map (·.toNat)) : Nat)
  | [], _, _ => rfl
  | c :: l, z, h => by
    have hc := c.toNat_lt
    have hx : z ^^^ c.toNat < 4294967296 := Nat.xor_lt_two_pow (n := 32) h (by omega)
    rw [List.foldl_cons, step_nat z c h, sumL_nat l _ (rep_lt 8 _ hx)]
    rfl
theorem sumP_nat (s : ByteArray) : sumP s = ((4294967295 ^^^ sumN 4294967295 (s.data.toList.map (·.toNat)) : Nat) : Int) := by
  have h := sumL_nat s.data.toList 4294967295 (by omega)
  have hl : sumN 4294967295 (s.data.toList.map (·.toNat)) < 4294967296 := sumN_lt _ _ (by omega) (by intro c hc; obtain ⟨d, _, rfl⟩ := List.mem_map.1 hc; have := d.toNat_lt; omega)
  unfold sumP sumL
  rw [show ((4294967295 : Nat) : Int) = 4294967295 from rfl] at h
  rw [h, show IntKind.u32.max = ((4294967295 : Nat) : Int) by rfl, xor32 _ _ (by omega) hl]
  have : 4294967295 ^^^ sumN 4294967295 (s.data.toList.map (·.toNat)) < 4294967296 := Nat.xor_lt_two_pow (n := 32) (by omega) hl
  exact IntWalk.wrap64_in _ (by omega)
theorem xor_cancel {a b c : Nat} (h : a ^^^ b = a ^^^ c) : b = c := by
  have h2 : a ^^^ (a ^^^ b) = a ^^^ (a ^^^ c) := by rw [h]
  rwa [← Nat.xor_assoc, Nat.xor_self, Nat.zero_xor, ← Nat.xor_assoc, Nat.xor_self, Nat.zero_xor] at h2

theorem sumN_app (a b : List Nat) (z : Nat) : sumN z (a ++ b) = sumN (sumN z a) b := by
  unfold sumN
  rw [List.foldl_append]
/-- One byte alone that is not nothing. -/
theorem sumN_one (i k by' : Nat) (h : by' < 256) (h0 : sumN 0 (List.replicate i 0 ++ (by' :: List.replicate k 0)) = 0) : by' = 0 := by
  rw [sumN_app, sumN_none] at h0
  have e : sumN 0 (by' :: List.replicate k 0) = sumN (Nat.repeat stepN 8 (0 ^^^ by')) (List.replicate k 0) := rfl
  rw [e, Nat.zero_xor] at h0
  have h1 := sumN_stays k _ (rep_lt 8 _ (by omega)) h0
  exact rep_zero 8 _ (by omega) h1
/-- Bytes of which one was turned have another sum. -/
theorem sum_turned (s t : ByteArray) (i : Nat) (c : UInt8) (hi : i < s.size) (ht : t.data.toList = s.data.toList.set i (s.data.toList.getD i 0 ^^^ c)) (he : sumP t = sumP s) : c = 0 := by
  rw [sumP_nat, sumP_nat] at he
  have he2 := xor_cancel (Int.ofNat.inj he)
  rw [ht] at he2
  have hl : s.data.toList.length = s.size := str_len s
  generalize s.data.toList = l at *
  obtain ⟨a, x, b, rfl, ha⟩ : ∃ a x b, l = a ++ (x :: b) ∧ a.length = i := ⟨l.take i, l[i], l.drop (i + 1), by rw [List.getElem_cons_drop, List.take_append_drop], by rw [List.length_take]; omega⟩
  have hg : (a ++ (x :: b)).getD i 0 = x := by
    rw [List.getD_eq_getElem?_getD, List.getElem?_append_right (by omega), ha, Nat.sub_self]
    rfl
  have hs : (a ++ (x :: b)).set i (x ^^^ c) = a ++ ((x ^^^ c) :: b) := by
    rw [List.set_append_right _ _ (by omega), ha, Nat.sub_self]
    rfl
  rw [hg, hs] at he2
  have hz : ((a ++ ((x ^^^ c) :: b)).map (·.toNat)) = List.zipWith (· ^^^ ·) ((a ++ (x :: b)).map (·.toNat)) (List.replicate a.length 0 ++ (c.toNat :: List.replicate b.length 0)) := by
    have zr : ∀ m : List UInt8, m.map (·.toNat) = List.zipWith (· ^^^ ·) (m.map (·.toNat)) (List.replicate m.length 0) := by
      intro m
      induction m with
      | nil => rfl
      | cons y m ih =>
        rw [List.length_cons, List.replicate_succ, List.map_cons, List.zipWith_cons_cons, ← ih, Nat.xor_zero]
    rw [List.map_append, List.map_append, List.map_cons, List.map_cons, List.zipWith_append (by rw [List.length_map, List.length_replicate]), List.zipWith_cons_cons, ← zr, ← zr, UInt8.toNat_xor]
  rw [hz] at he2
  have hx := sumN_xor ((a ++ (x :: b)).map (·.toNat)) (List.replicate a.length 0 ++ (c.toNat :: List.replicate b.length 0)) 4294967295 0 (by simp)
  rw [Nat.xor_zero] at hx
  rw [hx] at he2
  have h0 : sumN 0 (List.replicate a.length 0 ++ (c.toNat :: List.replicate b.length 0)) = 0 := by
    refine xor_cancel (a := sumN 4294967295 ((a ++ (x :: b)).map (·.toNat))) ?_
    rw [he2, Nat.xor_zero]
  have hc := sumN_one _ _ _ c.toNat_lt h0
  apply UInt8.toNat_inj.1
  exact hc
theorem open_seal' (s : ByteArray) (hs : s.size = 508) : (openP (sealP s)).2 = true := by
  have hz : (sealP s).size = 512 := by unfold sealP; rw [app_size, strOf_size, putL_len, hs]
  rw [← seal_same hz]
  have e : (sealP s).extract 4 (sealP s).size = s := by
    apply bl_ext
    rw [bl_cut]
    unfold sealP
    rw [bl_app, List.drop_append, List.drop_of_length_le (by rw [put_len]; exact Nat.le_refl _), put_len, app_size, strOf_size, putL_len]
    simp
    rw [List.take_of_length_le]
    rw [bl_len]
    omega
  rw [e]
  simp
section
variable {p : ByteArray} (R : RightP p)
include R
theorem seal_tail : (sealS p).data.toList.drop 4 = p.data.toList.drop 4 := by
  unfold sealS
  rw [if_pos ((rightP_iff p).mpr R)]
  unfold sealP
  rw [bl_app, List.drop_append, List.drop_of_length_le (by rw [put_len]; exact Nat.le_refl _), put_len, bl_cut, List.take_of_length_le (by rw [List.length_drop, bl_len]; omega)]
  rfl
theorem seal_sz : (sealS p).size = 512 := by
  unfold sealS
  rw [if_pos ((rightP_iff p).mpr R)]
  unfold sealP
  rw [app_size, strOf_size, putL_len, ByteArray.size_extract, R.size]
  omega
theorem seal_right : RightP (sealS p) := tail_right (seal_sz R) (seal_tail R).symm R
theorem seal_read : readC (sealS p) = readC p := (tail_read R.size (seal_sz R) (seal_tail R).symm R).symm
theorem seal_sealed : sealedS (sealS p) = true := by
  unfold sealedS
  rw [(rightP_iff _).mpr (seal_right R), Bool.and_true]
  unfold sealS
  rw [if_pos ((rightP_iff p).mpr R)]
  exact open_seal' _ (by rw [ByteArray.size_extract, R.size]; omega)
end
end Go.Proofs.YtfdedkcidemimaaDoor

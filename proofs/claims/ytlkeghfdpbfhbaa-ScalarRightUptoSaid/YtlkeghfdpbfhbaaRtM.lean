/- What an operator makes of right values is right. No walk. -/
import Derived.Test.YtlkeghfdpbfhbaaTmX
import Derived.Test.YtlkeghfdpbfhbaaRights
namespace Go.Proofs.Ytlkeghfdpbfhbaa
set_option linter.unusedVariables false
open Go.ChangeShapes Go.WideShapes Go.ChangeAt Go.RowKit

theorem byte_all {p : UInt8 → Bool} (h : (List.range 256).all (fun n => p (UInt8.ofNat n)) = true) (c : UInt8) : p c = true := by
  have := List.all_eq_true.1 h c.toNat (List.mem_range.2 c.toNat_lt)
  rwa [UInt8.ofNat_toNat] at this
theorem ok_low (c : UInt8) (h : okByte c = true) : okByte (shB 65 90 97 c) = true := by
  have := byte_all (p := fun c => !okByte c || okByte (shB 65 90 97 c)) (by decide +kernel) c
  simpa [h] using this
theorem ok_up (c : UInt8) (h : okByte c = true) : okByte (shB 97 122 65 c) = true := by
  have := byte_all (p := fun c => !okByte c || okByte (shB 97 122 65 c)) (by decide +kernel) c
  simpa [h] using this
theorem empty_is : (ByteArray.empty).toList.isEmpty = true := by decide +kernel
theorem right_null : rightP nullV = true := by
  show rightV 0 0 .empty = true
  unfold rightV
  rw [if_pos rfl]
  show (true && (ByteArray.empty).toList.isEmpty) = true
  rw [empty_is]
  rfl
theorem right_bool (b : Bool) : rightP (boolV b) = true := by
  show rightV 1 (if b then 1 else 0) .empty = true
  unfold rightV
  rw [if_neg (by decide), if_pos rfl]
  show ((decide ((if b then (1 : Int) else 0) = 0) || decide ((if b then (1 : Int) else 0) = 1)) && (ByteArray.empty).toList.isEmpty) = true
  rw [empty_is]
  cases b <;> rfl
theorem right_num {n : Int} (h : inN n = true) : rightP (numV n) = true := by
  show rightV 2 n .empty = true
  unfold rightV
  rw [if_neg (by decide), if_neg (by decide), if_pos rfl]
  show (inN n && (ByteArray.empty).toList.isEmpty) = true
  rw [empty_is, h]
  rfl
theorem right_str {s : ByteArray} (h : plainS s = true) : rightP (strV s) = true := by
  show rightV 3 0 s = true
  unfold rightV
  rw [if_neg (by decide), if_neg (by decide), if_neg (by decide), if_pos rfl]
  show (true && plainS s) = true
  rw [h]
  rfl
theorem right_tr (a : Int) : rightP (trV a) = true := by
  unfold trV
  by_cases h1 : sureI a = 1
  · rw [if_pos h1, if_neg (by omega)]
    exact right_null
  · rw [if_neg h1]
    by_cases h2 : sureI a = 2
    · rw [if_pos h2]; exact right_bool true
    · rw [if_neg h2]; exact right_bool false
theorem right_told {p : Int × Bool} (h : p.2 = true → inN p.1 = true) : rightP (toldV p) = true := by
  unfold toldV
  split
  · rename_i h1
    exact right_num (h h1)
  · exact right_null
theorem right_text {v : ValV} (h : rightP v = true) (hk : v.kind = 3) : plainS v.str = true := by
  unfold rightP rightV at h
  rw [if_neg (by omega), if_neg (by omega), if_neg (by omega), if_pos hk, Bool.and_eq_true] at h
  exact h.2
theorem bd_in (n : Int) : (bdP n).2 = true → inN (bdP n).1 = true := by
  unfold bdP
  split
  · rename_i h; intro _; exact h
  · intro h; cases h
theorem ar_in (op a b : Int) : (arP op a b).2 = true → inN (arP op a b).1 = true := by
  have f : ∀ x : Int × Bool, (x.2 = true → inN x.1 = true) → ∀ c : Bool, ((if c = true then x else ((0 : Int), false)).2 = true → inN (if c = true then x else ((0 : Int), false)).1 = true) := by
    intro x hx c
    cases c with
    | true => exact hx
    | false => intro h; cases h
  unfold arP
  split
  · exact f _ (bd_in _) _
  split
  · exact f _ (bd_in _) _
  split
  · exact f _ (bd_in _) _
  split
  · unfold divP
    intro h
    by_cases hc : (both a b && !(b == 0)) = true
    · rw [if_pos hc]
      rw [Bool.and_eq_true, both_iff] at hc
      have h0 : ¬ b = 0 := by simpa using hc.2
      exact (inN_iff _).2 (div_bd hc.1.1 hc.1.2 h0)
    · rw [if_neg hc] at h
      cases h
  · unfold modP
    intro h
    by_cases hc : (both a b && !(b == 0)) = true
    · rw [if_pos hc]
      rw [Bool.and_eq_true, both_iff] at hc
      have h0 : ¬ b = 0 := by simpa using hc.2
      exact (inN_iff _).2 (mod_bd hc.1.1 hc.1.2 h0)
    · rw [if_neg hc] at h
      cases h
theorem neg_in (a : Int) : (negP a).2 = true → inN (negP a).1 = true := by
  unfold negP
  split
  · rename_i h
    intro _
    rw [inN_iff] at *
    show _ ≤ -a ∧ -a ≤ _
    omega
  · intro h; cases h
theorem right_cmp (op : Int) (a b : ValV) : rightP (cmpOpV op a b) = true := by
  unfold cmpOpV
  split
  · exact right_bool _
  · exact right_null
theorem plain_app {s t : ByteArray} (hs : plainS s = true) (ht : plainS t = true) (h : s.size + t.size ≤ 100) : plainS (s ++ t) = true := by
  unfold plainS at *
  rw [Bool.and_eq_true, decide_eq_true_eq] at *
  refine ⟨by rw [ByteArray.size_append]; exact h, ?_⟩
  rw [ByteArray.data_append, Array.toList_append, List.all_append, hs.2, ht.2]
  rfl
theorem plain_map {s : ByteArray} {f : UInt8 → UInt8} (hs : plainS s = true) (hf : ∀ c, okByte c = true → okByte (f c) = true) : plainS (strL (s.data.toList.map f)) = true := by
  unfold plainS at *
  rw [Bool.and_eq_true, decide_eq_true_eq] at *
  refine ⟨by rw [strL_size, List.length_map, str_len]; exact hs.1, ?_⟩
  show ((s.data.toList.map f).toArray.toList).all okByte = true
  rw [List.toList_toArray, List.all_eq_true]
  intro c hc
  obtain ⟨d, hd, rfl⟩ := List.mem_map.1 hc
  exact hf d (List.all_eq_true.1 hs.2 d hd)
theorem right_bin (op : Int) (a b : ValV) (ha : rightP a = true) (hb : rightP b = true) : rightP (binV op a b) = true := by
  unfold binV
  split
  · exact right_tr _
  split
  · exact right_tr _
  split
  · exact right_cmp _ _ _
  split
  · split
    · rename_i h
      unfold txV
      split
      · exact right_bool _
      split
      · exact right_null
      · exact right_str (plain_app (right_text ha h.1) (right_text hb h.2) (by omega))
    · exact right_null
  split
  · exact right_told (ar_in _ _ _)
  · exact right_null
theorem right_un (op : Int) (a : ValV) : rightP (unV op a) = true := by
  unfold unV
  split
  · exact right_bool _
  split
  · exact right_tr _
  split
  · exact right_told (neg_in _)
  · exact right_null
theorem right_choose : ∀ (l : List ValV), (∀ v ∈ l, rightP v = true) → rightP (chooseV l) = true
  | [], _ => right_null
  | [x], h => h x (by simp)
  | a :: b :: l, h => by
    rw [chooseV]
    split
    · exact h b (by simp)
    · exact right_choose l fun v hv => h v (by simp [hv])
theorem right_coal : ∀ (l : List ValV), (∀ v ∈ l, rightP v = true) → rightP (coalV l) = true
  | [], _ => right_null
  | x :: l, h => by
    rw [coalV]
    split
    · exact right_coal l fun v hv => h v (by simp [hv])
    · exact h x (by simp)
theorem right_one (nm : ByteArray) (a : ValV) (h : rightP a = true) : rightP (oneV nm a) = true := by
  unfold oneV
  split
  · split
    · exact right_told (neg_in _)
    · exact right_told (fun e => e)
  split
  · rename_i hk
    have hp := right_text h hk
    split
    · refine right_num ((inN_iff _).2 ?_)
      have h1 := hp
      unfold plainS at h1
      rw [Bool.and_eq_true, decide_eq_true_eq] at h1
      have := h1.1
      omega
    split
    · exact right_str (plain_map hp ok_low)
    split
    · exact right_str (plain_map hp ok_up)
    · exact right_null
  · exact right_null
theorem right_call (nm : ByteArray) (l : List ValV) (h : ∀ v ∈ l, rightP v = true) : rightP (callV nm l) = true := by
  unfold callV
  split
  · exact right_coal l h
  split
  · exact right_one nm _ (h _ (by simp))
  · split
    · unfold nullifV
      split
      · exact right_null
      · exact h _ (by simp)
    · exact right_null
  · exact right_null
theorem right_apply (op : Int) (nm : ByteArray) (l : List ValV) (h : ∀ v ∈ l, rightP v = true) : rightP (applyV op nm l) = true := by
  unfold applyV
  split
  · split
    · exact right_un _ _
    · exact right_null
  split
  · split
    · exact right_bin _ _ _ (h _ (by simp)) (h _ (by simp))
    · exact right_null
  split
  · split
    · unfold betV
      exact right_bin _ _ _ (right_bin _ _ _ (h _ (by simp)) (h _ (by simp))) (right_bin _ _ _ (h _ (by simp)) (h _ (by simp)))
    · exact right_null
  split
  · split
    · exact right_tr _
    · exact right_null
  split
  · split
    · exact right_choose _ h
    · exact right_null
  split
  · exact right_call nm l h
  · exact right_null
end Go.Proofs.Ytlkeghfdpbfhbaa

/- Pages: what is changed is the same for both. No walk. -/
import Derived.Test.YtfdedkcidemimaaDoorPmF
import Derived.Test.YtfdedkcidemimaaDoorPrI
namespace Go.Proofs.YtfdedkcidemimaaDoor
set_option linter.unusedVariables false
open Go.ChangeShapes Go.WideShapes Go.ChangeAt Go.RowKit

theorem isRec_size {r : ByteArray} (h : isRec r = true) : 1 ≤ r.size ∧ r.size ≤ 400 := by
  unfold isRec at h
  simpa using h
theorem laid_made {c : CtV} (ht : Trim c.recs ∨ sizeN c.recs ≤ 512) : laidR c = madeS c := by
  rw [madeS_eq]
  unfold laidR layR
  by_cases hf : sizeN c.recs ≤ 512
  · have h2 : sizeN (trimmed c.recs) ≤ sizeN c.recs := sizeN_take _ _
    rw [if_pos hf, if_pos (show sizeN (trimmed c.recs) ≤ 512 by omega), if_neg (show ¬ 512 < sizeN (trimmed c.recs) by omega)]
  · rcases ht with ht | ht
    · rw [if_neg hf, trimmed_all ht, if_pos (by omega)]
    · exact absurd ht hf
theorem setP_len (l : List ByteArray) (k : Nat) (r : ByteArray) : (setP l k r).length = max l.length (k + 1) := by
  unfold setP
  rw [List.length_set, List.length_append, List.length_replicate]
  omega
theorem setP_in {l : List ByteArray} {k : Nat} {r : ByteArray} (h : k < l.length) : setP l k r = l.set k r := by
  unfold setP
  rw [show k + 1 - l.length = 0 by omega]
  simp
theorem setP_at (l : List ByteArray) (k : Nat) (r : ByteArray) : (setP l k r)[k]? = some r := by
  unfold setP
  rw [List.getElem?_set_self (by rw [List.length_append, List.length_replicate]; omega)]
theorem trim_setP {l : List ByteArray} {k : Nat} {r : ByteArray} (ht : Trim l) (hr : r.size ≠ 0) : Trim (setP l k r) := by
  intro x hx
  rw [List.getLast?_eq_getElem?, setP_len] at hx
  by_cases hk : l.length ≤ k
  · rw [show max l.length (k + 1) - 1 = k by omega, setP_at] at hx
    obtain rfl := Option.some.inj hx
    exact hr
  · rw [show max l.length (k + 1) - 1 = l.length - 1 by omega, setP_in (by omega)] at hx
    by_cases hkl : k = l.length - 1
    · rw [← hkl, List.getElem?_set_self (by omega)] at hx
      obtain rfl := Option.some.inj hx
      exact hr
    · rw [List.getElem?_set_ne (by omega), ← List.getLast?_eq_getElem?] at hx
      exact ht x hx
theorem trim_set {l : List ByteArray} {k : Nat} {r : ByteArray} (ht : Trim l) (hr : r.size ≠ 0) (h : k < l.length) : Trim (l.set k r) := by
  rw [← setP_in h]
  exact trim_setP ht hr
theorem putS_yes {p : ByteArray} {s : Int} {r : ByteArray} (R : RightP p) (h0 : 0 ≤ s) (hi : isRec r = true) (hg : (getS p s).2 = false) : putS p s r = if 128 ≤ s then (⟨#[]⟩, 18) else madeS (withR (readC p) (setP (readC p).recs s.toNat r)) := by
  unfold putS
  rw [if_pos ⟨(rightP_iff p).mpr R, h0, hi⟩, if_neg (by rw [hg]; decide)]
theorem putp_same {p : ByteArray} {s : Int} {r : ByteArray} (R : RightP p) (h0 : 0 ≤ s) (hi : isRec r = true) (hg : (getS p s).2 = false) (hs : s ≤ 512) : laidR (withR (readC p) (setP (readC p).recs s.toNat r)) = putS p s r := by
  have hr := isRec_size hi
  rw [putS_yes R h0 hi hg]
  by_cases h128 : 128 ≤ s
  · rw [if_pos h128]
    have hlen := setP_len (readC p).recs s.toNat r
    unfold laidR
    rw [if_neg]
    show ¬ sizeN (setP (readC p).recs s.toNat r) ≤ 512
    unfold sizeN
    omega
  · rw [if_neg h128]
    exact laid_made (.inl (trim_setP (readC_trim R) (by omega)))
theorem put_far {p : ByteArray} {s : Int} {r : ByteArray} (R : RightP p) (h0 : 0 ≤ s) (hi : isRec r = true) (hg : (getS p s).2 = false) (hs : 512 < s) : putS p s r = (⟨#[]⟩, 18) := by
  rw [putS_yes R h0 hi hg, if_pos (by omega)]
theorem set_same {p : ByteArray} {s : Int} {r : ByteArray} (hi : isRec r = true) (hg : (getS p s).2 = true) : laidR (withR (readC p) (setP (readC p).recs s.toNat r)) = setS p s r := by
  obtain ⟨hr, h0, hlt, _, _⟩ := getS_yes hg
  have R := (rightP_iff p).mp hr
  have hz := isRec_size hi
  have hl : s.toNat < (readC p).recs.length := by rw [readC_len]; exact hlt
  unfold setS
  rw [if_pos ⟨hr, hi⟩, if_pos hg, setP_in hl]
  exact laid_made (.inl (trim_set (readC_trim R) (by omega) hl))
theorem sumS_zero_set (l : List ByteArray) (k : Nat) : sumS (l.set k ⟨#[]⟩) ≤ sumS l := by
  have := sumS_set l k ⟨#[]⟩
  have h : (⟨#[]⟩ : ByteArray).size = 0 := rfl
  omega
theorem cut_same {p : ByteArray} {s : Int} (hg : (getS p s).2 = true) : laidR (withR (readC p) (setP (readC p).recs s.toNat ⟨#[]⟩)) = cutS p s := by
  obtain ⟨hr, h0, hlt, _, _⟩ := getS_yes hg
  have R := (rightP_iff p).mp hr
  have hl : s.toNat < (readC p).recs.length := by rw [readC_len]; exact hlt
  unfold cutS
  rw [if_pos hr, if_pos hg, setP_in hl]
  refine laid_made (.inr ?_)
  show sizeN ((readC p).recs.set s.toNat ⟨#[]⟩) ≤ 512
  have h1 := readC_fits R
  have h2 := sumS_zero_set (readC p).recs s.toNat
  unfold sizeN at *
  rw [List.length_set]
  omega
theorem del_same {p : ByteArray} {s : Int} (hg : (getS p s).2 = true) : laidR (withR (readC p) ((readC p).recs.take s.toNat ++ (readC p).recs.drop (s.toNat + 1))) = delS p s := by
  obtain ⟨hr, h0, hlt, _, _⟩ := getS_yes hg
  have R := (rightP_iff p).mp hr
  unfold delS
  rw [if_pos hr, if_pos hg, ← List.eraseIdx_eq_take_drop_succ]
  refine laid_made (.inr ?_)
  have h1 := readC_fits R
  have h2 := sizeN_erase (readC p).recs s.toNat
  show sizeN ((readC p).recs.eraseIdx s.toNat) ≤ 512
  omega
theorem getS_far {p : ByteArray} {s : Int} (h : (shN p 15 : Int) ≤ s) : (getS p s).2 = false := by
  unfold getS
  rw [if_neg (fun hc => by have := hc.2.2.1; omega)]
theorem insP_setP {l : List ByteArray} {k : Nat} {r : ByteArray} (h : l.length ≤ k) : insP l k r = setP l k r := by
  rw [insP_end h rfl]
  unfold setP
  rw [show k + 1 - l.length = (k - l.length) + 1 by omega, List.replicate_succ', ← List.append_assoc, List.set_append_right _ _ (by simp; omega)]
  simp
  rw [show k - (l.length + (k - l.length)) = 0 by omega]
  rfl
theorem add_far {p : ByteArray} {s : Int} {r : ByteArray} (R : RightP p) (h0 : 0 ≤ s) (hi : isRec r = true) (hs : (shN p 15 : Int) ≤ s) : putS p s r = addS p s r := by
  have e : addS p s r = if 128 ≤ s then (⟨#[]⟩, 18) else madeS (withR (readC p) (insP (readC p).recs s.toNat r)) := by
    unfold addS
    rw [if_pos ⟨(rightP_iff p).mpr R, h0, hi⟩]
  rw [putS_yes R h0 hi (getS_far hs), e, insP_setP (by rw [readC_len]; omega)]
theorem trim_ins {l : List ByteArray} {k : Nat} {r : ByteArray} (ht : Trim l) (h : k < l.length) : Trim (l.take k ++ r :: l.drop k) := by
  intro x hx
  rw [List.getLast?_append] at hx
  have hd : (r :: l.drop k).getLast? = l.getLast? := by
    rw [List.getLast?_cons_of_ne_nil (by intro e; have := congrArg List.length e; simp at this; omega), List.getLast?_drop, if_neg (by omega)]
  rw [hd] at hx
  cases hl : l.getLast? with
  | none => rw [List.getLast?_eq_none_iff] at hl; rw [hl] at h; cases h
  | some y =>
    rw [hl] at hx
    simp at hx
    rw [← hx]
    exact ht y hl
theorem add_near {p : ByteArray} {s : Int} {r : ByteArray} (R : RightP p) (h0 : 0 ≤ s) (hi : isRec r = true) (hs : s < shN p 15) : laidR (withR (readC p) ((readC p).recs.take s.toNat ++ r :: (readC p).recs.drop s.toNat)) = addS p s r := by
  have hn := R.gap
  have hb := R.beg
  have hl : s.toNat < (readC p).recs.length := by rw [readC_len]; omega
  unfold addS
  rw [if_pos ⟨(rightP_iff p).mpr R, h0, hi⟩, if_neg (by omega), insP_lt hl]
  exact laid_made (.inl (trim_ins (readC_trim R) hl))
end Go.Proofs.YtfdedkcidemimaaDoor

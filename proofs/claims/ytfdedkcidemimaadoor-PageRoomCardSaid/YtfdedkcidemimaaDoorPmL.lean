/- Pages: how much room there is; a byte that is another one. No walk. -/
import Derived.Test.YtfdedkcidemimaaDoorPmK
namespace Go.Proofs.YtfdedkcidemimaaDoor
set_option linter.unusedVariables false
open Go.ChangeShapes Go.WideShapes Go.ChangeAt Go.RowKit

theorem idx_nil : ∀ (l : List ByteArray) (k : Nat), idxFrom ⟨#[]⟩ l k = -1 ∨ ∃ j x, idxFrom ⟨#[]⟩ l k = ((k + j : Nat) : Int) ∧ l[j]? = some x ∧ x.size = 0
  | [], k => .inl rfl
  | y :: l, k => by
    unfold idxFrom
    by_cases hq : ((⟨#[]⟩ : ByteArray).toList == y.toList) = true
    · rw [if_pos hq]
      refine .inr ⟨0, y, rfl, rfl, ?_⟩
      rw [toList_bl, toList_bl] at hq
      have he : ([] : List UInt8) = y.data.toList := by simpa using hq
      rw [← bl_len, ← he]
      rfl
    · rw [if_neg hq]
      rcases idx_nil l (k + 1) with h | ⟨j, x, h1, h2, h3⟩
      · exact .inl h
      · exact .inr ⟨j + 1, x, by rw [h1]; omega, by simpa using h2, h3⟩
theorem free_empty (l : List ByteArray) : ∃ k : Nat, freeI l = k ∧ k ≤ l.length ∧ (gd l k).size = 0 := by
  unfold freeI
  rcases idx_nil l 0 with h | ⟨j, x, h1, h2, h3⟩
  · rw [h, if_pos (by omega)]
    refine ⟨l.length, rfl, Nat.le_refl _, ?_⟩
    rw [gd_of, List.getElem?_eq_none (Nat.le_refl _)]
    rfl
  · rw [h1, if_neg (by omega)]
    refine ⟨j, by omega, ?_, ?_⟩
    · have := (List.getElem?_eq_some_iff.1 h2).1
      omega
    · rw [gd_of, h2]
      exact h3
theorem sumS_set_eq : ∀ (l : List ByteArray) (k : Nat) (r : ByteArray), k < l.length → (gd l k).size = 0 → sumS (l.set k r) = sumS l + r.size
  | [], _, _, h, _ => absurd h (Nat.not_lt_zero _)
  | x :: l, 0, r, _, hz => by
    have hx : x.size = 0 := hz
    simp only [List.set_cons_zero, sumS]
    omega
  | x :: l, k + 1, r, h, hz => by
    have ih := sumS_set_eq l k r (by simpa using h) hz
    simp only [List.set_cons_succ, sumS]
    omega
theorem sizeN_free (l : List ByteArray) (k : Nat) (r : ByteArray) (hk : k ≤ l.length) (hz : (gd l k).size = 0) : sizeN (setP l k r) = sizeN l + r.size + (if k = l.length then 4 else 0) := by
  have h1 := setP_len l k r
  have h2 : sumS (setP l k r) = sumS l + r.size := by
    unfold setP
    rw [sumS_set_eq _ _ _ (by rw [List.length_append, List.length_replicate]; omega) (by rw [gd_app]; exact hz), sumS_pad]
  unfold sizeN
  rw [h1, h2]
  by_cases hkl : k = l.length
  · rw [if_pos hkl]; omega
  · rw [if_neg hkl]; omega
theorem room_facts {p : ByteArray} (R : RightP p) : ∃ (n k : Nat), roomS p = n ∧ freeS p = k ∧ n ≤ 400 ∧ k ≤ slotsS p ∧ ((putS p (k : Int) (zrs n)).2 = if n = 0 then 1 else 0) ∧ (putS p (k : Int) (zrs (n + 1))).2 ≠ 0 := by
  have hrb := (rightP_iff p).mpr R
  have hq : qC p = readC p := by unfold qC; rw [if_pos hrb]
  obtain ⟨k, hk, hkl, hz⟩ := free_empty (readC p).recs
  have hfit := readC_fits R
  have hlen := readC_len p
  have hb := R.gap
  have hbb := R.beg
  have hroom : roomS p = min (max ((512 : Int) - sizeN (readC p).recs - (if freeI (readC p).recs = ((readC p).recs.length : Int) then 4 else 0)) 0) 400 := by
    unfold roomS
    rw [if_pos hrb]
    rfl
  rw [hk] at hroom
  obtain ⟨d, hd⟩ : ∃ d, (if k = (readC p).recs.length then 4 else 0) = d := ⟨_, rfl⟩
  have hd2 : (if (k : Int) = ((readC p).recs.length : Int) then (4 : Int) else 0) = (d : Nat) := by
    rw [← hd]
    by_cases h : k = (readC p).recs.length
    · rw [if_pos h, if_pos (by omega)]; rfl
    · rw [if_neg h, if_neg (by omega)]; rfl
  rw [hd2] at hroom
  obtain ⟨n, hn⟩ : ∃ n : Nat, roomS p = n := ⟨(roomS p).toNat, by omega⟩
  rw [hn] at hroom
  have hg : (getS p (k : Int)).2 = false := by
    rw [getS_gd R, if_neg (fun h => h hz)]
  have hput : ∀ r : ByteArray, isRec r = true → (putS p (k : Int) r).2 = if 512 < sizeN (readC p).recs + r.size + d then 18 else 0 := by
    intro r hr
    have hrz := isRec_size hr
    have ht : trimmed (setP (readC p).recs k r) = setP (readC p).recs k r := trimmed_all (trim_setP (readC_trim R) (by omega))
    rw [putS_yes R (by omega) hr hg, if_neg (by omega), Int.toNat_natCast, madeS_eq]
    have ht2 : trimmed (withR (readC p) (setP (readC p).recs k r)).recs = setP (readC p).recs k r := ht
    rw [ht2, sizeN_free _ _ _ hkl hz, hd]
    by_cases hf : 512 < sizeN (readC p).recs + r.size + d
    · rw [if_pos hf, if_pos hf]
    · rw [if_neg hf, if_neg hf]
  have hno : ∀ r : ByteArray, isRec r = false → (putS p (k : Int) r).2 = 1 := by
    intro r hr
    unfold putS
    rw [if_neg (by rw [hr]; simp)]
  refine ⟨n, k, hn, ?_, by omega, ?_, ?_, ?_⟩
  · rw [freeS_q, hq, hk]
  · rw [slotsS_q, hq]; exact hkl
  · by_cases h0 : n = 0
    · rw [if_pos h0, h0]
      exact hno _ (by decide)
    · rw [if_neg h0, hput _ (isRec_of (by rw [zrs_size]; omega) (by rw [zrs_size]; omega)), if_neg (by rw [zrs_size]; omega)]
  · by_cases h4 : n = 400
    · rw [hno _ (by unfold isRec; rw [zrs_size, h4]; decide)]
      decide
    · rw [hput _ (isRec_of (by rw [zrs_size]; omega) (by rw [zrs_size]; omega)), if_pos (by rw [zrs_size]; omega)]
      decide
theorem open_iff {t : ByteArray} (hz : t.size = 512) : (openP t).2 = true ↔ be (sub t.data.toList 0 4) = sumP (t.extract 4 t.size) := by
  have g := getP_be (s := t) (a := 0) (k := 4) (by omega) (by omega) (by omega)
  unfold openP
  rw [show (getP t 0 4) = _ from g]
  dsimp only
  rw [Bool.true_and]
  by_cases hc : be (sub t.data.toList 0 4) = sumP (t.extract 4 t.size)
  · rw [if_pos (by simp [hc])]
    simp [hc]
  · rw [if_neg (by simp [hc])]
    simp [hc]
theorem be_inj {k : Nat} {a b : List UInt8} (ha : a.length = k) (hb : b.length = k) (h : be a = be b) : a = b := by
  rw [← putL_be k a ha, ← putL_be k b hb, h]
theorem xor_zero' {x c : UInt8} (h : x ^^^ c = x) : c = 0 := by
  have h2 : x ^^^ (x ^^^ c) = x ^^^ x := by rw [h]
  rw [← UInt8.xor_assoc, UInt8.xor_self, UInt8.zero_xor] at h2
  exact h2
theorem sealed_turned {p t : ByteArray} (R : RightP p) {i : Nat} (hi : i < 512) (c : UInt8) (ht : t.data.toList = (sealS p).data.toList.set i ((sealS p).data.toList.getD i 0 ^^^ c)) : sealedS t = decide (c = 0) := by
  have hz := seal_sz R
  have htz : t.size = 512 := by rw [← bl_len, ht, List.length_set, bl_len, hz]
  by_cases hc : c = 0
  · rw [decide_eq_true hc]
    have : t = sealS p := by
      apply bl_ext
      rw [ht, hc, UInt8.xor_zero]
      apply List.ext_getElem?
      intro j
      by_cases hj : j = i
      · subst hj
        have hl : j < (sealS p).data.toList.length := by rw [bl_len, hz]; exact hi
        rw [List.getElem?_set_self hl, List.getD_eq_getElem?_getD, List.getElem?_eq_getElem hl]
        rfl
      · rw [List.getElem?_set_ne (by omega)]
    rw [this]
    exact seal_sealed R
  · rw [decide_eq_false hc]
    unfold sealedS
    have hs := (open_iff hz).mp (by have := seal_sealed R; unfold sealedS at this; simp at this; exact this.1)
    cases ho : (openP t).2 with
    | false => rfl
    | true =>
      exfalso
      have h2 := (open_iff htz).mp ho
      have hsl : (sealS p).data.toList.length = 512 := by rw [bl_len, hz]
      have htl : t.data.toList.length = 512 := by rw [bl_len, htz]
      by_cases h4 : 4 ≤ i
      · have hh : sub t.data.toList 0 4 = sub (sealS p).data.toList 0 4 := by
          unfold sub
          rw [ht, List.drop_zero, List.drop_zero, List.take_set_of_le h4]
        rw [hh, hs] at h2
        refine hc (sum_turned ((sealS p).extract 4 (sealS p).size) (t.extract 4 t.size) (i - 4) c (by rw [ByteArray.size_extract]; omega) ?_ h2.symm)
        rw [bl_cut, bl_cut, List.take_of_length_le (by rw [List.length_drop]; omega), List.take_of_length_le (by rw [List.length_drop]; omega), ht, List.drop_set, if_neg (by omega)]
        congr 2
        rw [List.getD_eq_getElem?_getD, List.getD_eq_getElem?_getD, List.getElem?_drop, show 4 + (i - 4) = i by omega]
      · have hd : t.extract 4 t.size = (sealS p).extract 4 (sealS p).size := by
          apply bl_ext
          rw [bl_cut, bl_cut, htz, hz, ht, List.drop_set, if_pos (by omega)]
        rw [hd, ← hs] at h2
        have he := be_inj (k := 4) (sub_len (by omega)) (sub_len (by omega)) h2
        have h5 := sub_getD (l := t.data.toList) (a := 0) (n := 4) (i := i) (by omega)
        have h6 := sub_getD (l := (sealS p).data.toList) (a := 0) (n := 4) (i := i) (by omega)
        rw [he, h6, Nat.zero_add] at h5
        rw [ht, List.getD_eq_getElem?_getD, List.getD_eq_getElem?_getD, List.getElem?_set_self (by omega)] at h5
        have h7 : ∀ x : UInt8, x = x ^^^ c → c = 0 := fun x h => xor_zero' h.symm
        exact hc (h7 _ h5)
theorem plain_seal {p : ByteArray} (R : RightP p) : setLsnS (sealS p) (lsnS (sealS p)) = setLsnS p (lsnS p) := by
  rw [plain_eq R, plain_eq (seal_right R), seal_read R]
end Go.Proofs.YtfdedkcidemimaaDoor

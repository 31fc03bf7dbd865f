/- Pages: the other slots; how much room there is; a byte that is another one. No walk. -/
import Derived.Test.YtfdedkcidemimaaDoorPmJ
import Derived.Test.YtfdedkcidemimaaDoorPrL
namespace Go.Proofs.YtfdedkcidemimaaDoor
set_option linter.unusedVariables false
open Go.ChangeShapes Go.WideShapes Go.ChangeAt Go.RowKit

def gd (l : List ByteArray) (k : Nat) : ByteArray := l.getD k ⟨#[]⟩
theorem gd_of (l : List ByteArray) (k : Nat) : gd l k = (l[k]?).getD ⟨#[]⟩ := by unfold gd; rw [List.getD_eq_getElem?_getD]
theorem rgetV_gd (l : List ByteArray) (k : Nat) : rgetV l (k : Int) = if (gd l k).size ≠ 0 then (gd l k, true) else (⟨#[]⟩, false) := by
  unfold rgetV
  rw [Int.toNat_natCast]
  by_cases hz : (gd l k).size ≠ 0
  · have hk : k < l.length := by
      rcases Nat.lt_or_ge k l.length with h | h
      · exact h
      · rw [gd_of, List.getElem?_eq_none h] at hz
        exact absurd rfl hz
    rw [if_pos ⟨by omega, hk, hz⟩, if_pos hz]
    rfl
  · rw [if_neg (fun h => hz h.2.2), if_neg hz]
theorem gd_app (l : List ByteArray) (m k : Nat) : gd (l ++ List.replicate m (⟨#[]⟩ : ByteArray)) k = gd l k := by
  rw [gd_of, gd_of]
  by_cases hk : k < l.length
  · rw [List.getElem?_append_left hk]
  · rw [List.getElem?_append_right (by omega), List.getElem?_eq_none (l := l) (by omega), List.getElem?_replicate]
    split <;> rfl
theorem gd_set {l : List ByteArray} {a k : Nat} {r : ByteArray} (h : a ≠ k) : gd (l.set a r) k = gd l k := by
  rw [gd_of, gd_of, List.getElem?_set_ne h]
theorem gd_setP {l : List ByteArray} {a k : Nat} {r : ByteArray} (h : a ≠ k) : gd (setP l a r) k = gd l k := by
  unfold setP
  rw [gd_set h, gd_app]
theorem gd_trimmed (l : List ByteArray) (k : Nat) : gd (trimmed l) k = gd l k := by
  have h := pad_trim l
  have h2 := gd_app (trimmed l) (l.length - (trimmed l).length) k
  rw [h] at h2
  exact h2.symm
theorem gd_ins_lt {l : List ByteArray} {a k : Nat} {r : ByteArray} (h : k < a) : gd (insP l a r) k = gd l k := by
  have hl := padS_len l a
  rw [← gd_app l (a - l.length) k]
  show gd ((padS l a).take a ++ r :: (padS l a).drop a) k = gd (padS l a) k
  rw [gd_of, gd_of, List.getElem?_append_left (by rw [List.length_take]; omega), List.getElem?_take, if_pos h]
theorem gd_ins_ge {l : List ByteArray} {a k : Nat} {r : ByteArray} (h : a ≤ k) : gd (insP l a r) (k + 1) = gd l k := by
  have hl := padS_len l a
  rw [← gd_app l (a - l.length) k]
  show gd ((padS l a).take a ++ r :: (padS l a).drop a) (k + 1) = gd (padS l a) k
  rw [gd_of, gd_of, List.getElem?_append_right (by rw [List.length_take]; omega), List.length_take, show k + 1 - min a (padS l a).length = (k - a) + 1 by omega, List.getElem?_cons_succ, List.getElem?_drop, show a + (k - a) = k by omega]
theorem gd_erase_lt {l : List ByteArray} {a k : Nat} (h : k < a) : gd (l.eraseIdx a) k = gd l k := by
  rw [gd_of, gd_of, List.getElem?_eraseIdx, if_pos h]
theorem gd_erase_ge {l : List ByteArray} {a k : Nat} (h : a ≤ k) : gd (l.eraseIdx a) k = gd l (k + 1) := by
  rw [gd_of, gd_of, List.getElem?_eraseIdx, if_neg (by omega)]
theorem getS_gd {p : ByteArray} (R : RightP p) (k : Nat) : getS p (k : Int) = if (gd (readC p).recs k).size ≠ 0 then (gd (readC p).recs k, true) else (⟨#[]⟩, false) := by
  rw [getS_q, ← rgetV_gd]
  unfold qC
  rw [if_pos ((rightP_iff p).mpr R)]
theorem getS_same {p : ByteArray} (R : RightP p) {c : CtV} (ok : CtOk c) {k m : Nat} (h : gd c.recs m = gd (readC p).recs k) : getS (layL c) (m : Int) = getS p (k : Int) := by
  rw [getS_lay ok, rgetV_gd, getS_gd R, h]
theorem madeS_err {c : CtV} {q : ByteArray} {e : Int} (h : madeS c = (q, e)) (hq : q.size ≠ 0) : e = 0 := by
  rw [madeS_eq] at h
  by_cases hf : 512 < sizeN (trimmed c.recs)
  · rw [if_pos hf] at h
    injection h with h1 _
    subst h1
    exact absurd rfl hq
  · rw [if_neg hf] at h
    injection h with _ h2
    exact h2.symm
/-- What Put gives. -/
theorem put_gives {p q : ByteArray} {s e : Int} {r : ByteArray} (h : putS p s r = (q, e)) (hq : q.size ≠ 0) : ∃ k : Nat, s = k ∧ RightP p ∧ CtOk (withR (readC p) (setP (readC p).recs k r)) ∧ q = layL (withR (readC p) (setP (readC p).recs k r)) := by
  unfold putS at h
  by_cases hc : rightB p = true ∧ 0 ≤ s ∧ isRec r = true
  · rw [if_pos hc] at h
    have R := (rightP_iff p).mp hc.1
    have hz := isRec_size hc.2.2
    by_cases hg : (getS p s).2 = true
    · rw [if_pos hg] at h; injection h with h _; subst h; exact absurd rfl hq
    · rw [if_neg hg] at h
      by_cases h128 : 128 ≤ s
      · rw [if_pos h128] at h; injection h with h _; subst h; exact absurd rfl hq
      · rw [if_neg h128] at h
        obtain ⟨k, rfl⟩ : ∃ k : Nat, s = k := ⟨s.toNat, by omega⟩
        rw [Int.toNat_natCast] at h
        have he := madeS_err h hq
        subst he
        obtain ⟨hf, rfl⟩ := madeS_ok h
        have ht : trimmed (setP (readC p).recs k r) = setP (readC p).recs k r := trimmed_all (trim_setP (readC_trim R) (by omega))
        have ht2 : trimmed (withR (readC p) (setP (readC p).recs k r)).recs = setP (readC p).recs k r := ht
        have ok := ok_with R hf (by
            intro x hx
            have hx' : x ∈ setP (readC p).recs k r := hx
            unfold setP at hx'
            rcases List.mem_or_eq_of_mem_set hx' with h1 | h1
            · rcases List.mem_append.1 h1 with h2 | h2
              · exact recs_small R x h2
              · rw [(List.mem_replicate.1 h2).2]; decide
            · rw [h1]; omega)
        rw [ht2] at ok ⊢
        exact ⟨k, rfl, R, ok, rfl⟩
  · rw [if_neg hc] at h; injection h with h _; subst h; exact absurd rfl hq
theorem set_gives {p q : ByteArray} {s e : Int} {r : ByteArray} (h : setS p s r = (q, e)) (hq : q.size ≠ 0) : ∃ k : Nat, s = k ∧ RightP p ∧ CtOk (withR (readC p) (trimmed ((readC p).recs.set k r))) ∧ q = layL (withR (readC p) (trimmed ((readC p).recs.set k r))) := by
  unfold setS at h
  by_cases hc : rightB p = true ∧ isRec r = true
  · rw [if_pos hc] at h
    have R := (rightP_iff p).mp hc.1
    have hz := isRec_size hc.2
    by_cases hg : (getS p s).2 = true
    · rw [if_pos hg] at h
      obtain ⟨_, h0, _, _, _⟩ := getS_yes hg
      obtain ⟨k, rfl⟩ : ∃ k : Nat, s = k := ⟨s.toNat, by omega⟩
      rw [Int.toNat_natCast] at h
      have he := madeS_err h hq
      subst he
      obtain ⟨hf, rfl⟩ := madeS_ok h
      exact ⟨k, rfl, R, ok_with R hf (mem_set_small R (by omega)), rfl⟩
    · rw [if_neg hg] at h; injection h with h _; subst h; exact absurd rfl hq
  · rw [if_neg hc] at h; injection h with h _; subst h; exact absurd rfl hq
theorem cut_gives {p q : ByteArray} {s e : Int} (h : cutS p s = (q, e)) (hq : q.size ≠ 0) : ∃ k : Nat, s = k ∧ RightP p ∧ CtOk (withR (readC p) (trimmed ((readC p).recs.set k ⟨#[]⟩))) ∧ q = layL (withR (readC p) (trimmed ((readC p).recs.set k ⟨#[]⟩))) := by
  unfold cutS at h
  by_cases hc : rightB p = true
  · rw [if_pos hc] at h
    have R := (rightP_iff p).mp hc
    by_cases hg : (getS p s).2 = true
    · rw [if_pos hg] at h
      obtain ⟨_, h0, _, _, _⟩ := getS_yes hg
      obtain ⟨k, rfl⟩ : ∃ k : Nat, s = k := ⟨s.toNat, by omega⟩
      rw [Int.toNat_natCast] at h
      have he := madeS_err h hq
      subst he
      obtain ⟨hf, rfl⟩ := madeS_ok h
      exact ⟨k, rfl, R, ok_with R hf (mem_set_small R (by decide)), rfl⟩
    · rw [if_neg hg] at h; injection h with h _; subst h; exact absurd rfl hq
  · rw [if_neg hc] at h; injection h with h _; subst h; exact absurd rfl hq
/-- Any other slot stays. -/
theorem other_put {p q : ByteArray} {a b e : Int} {r : ByteArray} (h : putS p a r = (q, e)) (hq : q.size ≠ 0) (hb : 0 ≤ b) (hab : a ≠ b) : q.size = 512 ∧ getS q b = getS p b := by
  obtain ⟨k, rfl, R, ok, rfl⟩ := put_gives h hq
  obtain ⟨m, rfl⟩ : ∃ m : Nat, b = m := ⟨b.toNat, by omega⟩
  exact ⟨layL_size _ ok.fits, getS_same R ok (gd_setP (by omega))⟩
theorem other_set {p q : ByteArray} {a b e : Int} {r : ByteArray} (h : setS p a r = (q, e)) (hq : q.size ≠ 0) (hb : 0 ≤ b) (hab : a ≠ b) : q.size = 512 ∧ getS q b = getS p b := by
  obtain ⟨k, rfl, R, ok, rfl⟩ := set_gives h hq
  obtain ⟨m, rfl⟩ : ∃ m : Nat, b = m := ⟨b.toNat, by omega⟩
  exact ⟨layL_size _ ok.fits, getS_same R ok (by show gd (trimmed _) m = _; rw [gd_trimmed, gd_set (by omega)])⟩
theorem other_cut {p q : ByteArray} {a b e : Int} (h : cutS p a = (q, e)) (hq : q.size ≠ 0) (hb : 0 ≤ b) (hab : a ≠ b) : q.size = 512 ∧ getS q b = getS p b := by
  obtain ⟨k, rfl, R, ok, rfl⟩ := cut_gives h hq
  obtain ⟨m, rfl⟩ : ∃ m : Nat, b = m := ⟨b.toNat, by omega⟩
  exact ⟨layL_size _ ok.fits, getS_same R ok (by show gd (trimmed _) m = _; rw [gd_trimmed, gd_set (by omega)])⟩
theorem size_small {p q : ByteArray} {s e : Int} {r : ByteArray} (h : putS p s r = (q, e) ∨ setS p s r = (q, e) ∨ cutS p s = (q, e)) : q.size ≤ 4000 := by
  by_cases hq : q.size ≠ 0
  · rcases h with h | h | h
    · obtain ⟨k, rfl, R, ok, rfl⟩ := put_gives h hq
      rw [layL_size _ ok.fits]; omega
    · obtain ⟨k, rfl, R, ok, rfl⟩ := set_gives h hq
      rw [layL_size _ ok.fits]; omega
    · obtain ⟨k, rfl, R, ok, rfl⟩ := cut_gives h hq
      rw [layL_size _ ok.fits]; omega
  · omega
theorem other_add {p q : ByteArray} {a b : Int} {r : ByteArray} (h : addS p a r = (q, 0)) (hb : 0 ≤ b) : q.size = 512 ∧ getS q (if a ≤ b then b + 1 else b) = getS p b ∧ getS q a = (r, true) := by
  obtain ⟨k, rfl, R, hi, ok, rfl⟩ := add_gives h
  have hz := isRec_size hi
  obtain ⟨m, rfl⟩ : ∃ m : Nat, b = m := ⟨b.toNat, by omega⟩
  refine ⟨layL_size _ ok.fits, ?_, ?_⟩
  · by_cases hab : k ≤ m
    · rw [if_pos (by omega)]
      exact getS_same R ok (m := m + 1) (gd_ins_ge hab)
    · rw [if_neg (by omega)]
      exact getS_same R ok (gd_ins_lt (by omega))
  · rw [getS_lay ok]
    exact rgetV_yes (insP_at _ _ _) (by omega)
theorem other_del {p q : ByteArray} {a b : Int} (h : delS p a = (q, 0)) (hb : 0 ≤ b) (hab : a ≠ b) : q.size = 512 ∧ getS q (if a < b then b - 1 else b) = getS p b := by
  obtain ⟨k, u, rfl, R, hu, ok, rfl⟩ := del_gives h
  obtain ⟨m, rfl⟩ : ∃ m : Nat, b = m := ⟨b.toNat, by omega⟩
  refine ⟨layL_size _ ok.fits, ?_⟩
  by_cases hkm : k < m
  · rw [if_pos (by omega)]
    have e : ((m : Int) - 1) = ((m - 1 : Nat) : Int) := by omega
    rw [e]
    exact getS_same R ok (by show gd (trimmed _) _ = _; rw [gd_trimmed, gd_erase_ge (by omega), show m - 1 + 1 = m by omega])
  · rw [if_neg (by omega)]
    exact getS_same R ok (by show gd (trimmed _) _ = _; rw [gd_trimmed, gd_erase_lt (by omega)])
end Go.Proofs.YtfdedkcidemimaaDoor

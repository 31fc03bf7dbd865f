/- Pages: a right page's bytes are those of what it says; what a content's bytes say. No walk. -/
import Derived.Test.YtfdedkcidemimaaDoorPmA
namespace Go.Proofs.YtfdedkcidemimaaDoor
set_option linter.unusedVariables false
open Go.ChangeShapes Go.WideShapes Go.ChangeAt Go.RowKit

theorem recAt_bl (p : ByteArray) (i : Nat) : (recAt p i).data.toList = sub p.data.toList (shN p (19 + 4 * i)) (shN p (21 + 4 * i)) := by
  unfold recAt
  rw [bl_cut, show shN p (19 + 4 * i) + shN p (21 + 4 * i) - shN p (19 + 4 * i) = shN p (21 + 4 * i) by omega]
  rfl
theorem recs_at (p : ByteArray) {i : Nat} (h : i < shN p 15) : (readC p).recs[i]? = some (recAt p i) := by
  unfold readC
  dsimp only
  rw [List.getElem?_map, List.getElem?_range h]
  rfl
theorem chk_front {l : List (Nat × Nat)} {s : Nat × Bool} (h : chk l = some s) (k : Nat) : ∃ t, chk (l.take k) = some t := by
  cases hc : chk (l.take k) with
  | some t => exact ⟨t, rfl⟩
  | none => rw [chk_none hc] at h; cases h
/-- What the fold keeps, of a right page's records. -/
theorem lay_right {p : ByteArray} (R : RightP p) : ∀ k, k ≤ shN p 15 → ∀ t, chk ((slotsN p (shN p 15)).take k) = some t → layF ((readC p).recs.take k) = ⟨t.1, sub p.data.toList 19 (4 * k), p.data.toList.drop t.1⟩
  | 0, _, t, ht => by
    have : t = (512, true) := by
      have e : chk ((slotsN p (shN p 15)).take 0) = some (512, true) := rfl
      rw [e] at ht
      exact (Option.some.inj ht).symm
    subst this
    have e : p.data.toList.drop 512 = [] := List.drop_of_length_le (by rw [bl_len, R.size]; exact Nat.le_refl _)
    show layF [] = _
    unfold layF sub
    rw [e]
    rfl
  | k + 1, hk, t, ht => by
    obtain ⟨s, hs⟩ := chk_front ht k
    rw [List.take_take, Nat.min_eq_left (Nat.le_succ k)] at hs
    have ih := lay_right R k (by omega) s hs
    have hx := slotsN_at p (n := shN p 15) (i := k) hk
    rw [chk_step hx hs] at ht
    have hz := R.size
    have hgap := R.gap
    have hbeg := R.beg
    rw [layF_next (recs_at p hk), ih]
    have e4 : sub p.data.toList 19 (4 * (k + 1)) = sub p.data.toList 19 (4 * k) ++ (sub p.data.toList (19 + 4 * k) 2 ++ sub p.data.toList (21 + 4 * k) 2) := by
      rw [show 4 * (k + 1) = 4 * k + (2 + 2) by omega, sub_add, sub_add, show 19 + 4 * k + 2 = 21 + 4 * k by omega]
    have e5 : sub p.data.toList (19 + 4 * k) 2 = [hiB (shN p (19 + 4 * k)), loB (shN p (19 + 4 * k))] := (hl_sh (by omega)).symm
    have e6 : sub p.data.toList (21 + 4 * k) 2 = [hiB (shN p (21 + 4 * k)), loB (shN p (21 + 4 * k))] := (hl_sh (by omega)).symm
    rw [e4, e5, e6]
    have hr := recAt_bl p k
    have hle := R.slot hk
    have hrs : (recAt p k).size = shN p (21 + 4 * k) := by
      rw [← bl_len, hr, sub_len (by rw [bl_len]; omega)]
    generalize recAt p k = r at *
    generalize shN p (19 + 4 * k) = a at *
    generalize shN p (21 + 4 * k) = z at *
    unfold slotS at ht
    dsimp only at ht
    unfold layS
    rw [hrs, hr]
    by_cases h0 : a = 0 ∧ z = 0
    · rw [if_pos h0] at ht
      obtain rfl := Option.some.inj ht
      obtain ⟨rfl, rfl⟩ := h0
      rw [if_pos rfl]
      rfl
    · rw [if_neg h0] at ht
      by_cases h1 : z < 1 ∨ 400 < z ∨ a + z ≠ s.1
      · rw [if_pos h1] at ht; cases ht
      · rw [if_neg h1] at ht
        obtain rfl := Option.some.inj ht
        rw [if_neg (by omega)]
        dsimp only
        have e7 : s.1 - z = a := by omega
        have e8 : s.1 = a + z := by omega
        rw [e7, drop_sub p.data.toList a z, e8]
        rfl
theorem readC_lay {p : ByteArray} (R : RightP p) : layF (readC p).recs = ⟨shN p 17, sub p.data.toList 19 (4 * shN p 15), p.data.toList.drop (shN p 17)⟩ := by
  have h := lay_right R (shN p 15) (Nat.le_refl _) (shN p 17, true) (by rw [List.take_of_length_le (by rw [slotsN_len]; exact Nat.le_refl _)]; exact R.slots)
  rw [List.take_of_length_le (by rw [readC_len]; exact Nat.le_refl _)] at h
  exact h
def z4 : List UInt8 := [0, 0, 0, 0]
/-- The bytes of a right page are those of what it says, but for the sum. -/
theorem lay_read {p : ByteArray} (R : RightP p) : (layL (readC p)).data.toList = z4 ++ p.data.toList.drop 4 := by
  have hz := R.size
  have hgap := R.gap
  have hbeg := R.beg
  have hL : p.data.toList.length = 512 := by rw [bl_len, hz]
  unfold layL
  rw [bl_app, bl_app, bl_app, bl_bytesOf, bl_bytesOf, bl_zrs, readC_lay R, readC_len]
  dsimp only
  unfold headL
  rw [bl_app, bl_app, bl_app, bl_app, bl_app, readC_len]
  unfold readC
  dsimp only
  have g6 := getP_be (s := p) (a := 4) (k := 6) (by omega) (by omega) (by omega)
  have g3 := getP_be (s := p) (a := 12) (k := 3) (by omega) (by omega) (by omega)
  rw [show (getP p 4 6) = _ from g6, show (getP p 12 3) = _ from g3]
  dsimp only
  rw [strOf_be (sub_len (by omega)), strOf_be (sub_len (by omega)), put_sh (by omega), put_sh (by omega)]
  have zz : List.replicate (shN p 17 - 19 - 4 * shN p 15) 0 = sub p.data.toList (19 + 4 * shN p 15) (shN p 17 - (19 + 4 * shN p 15)) := by
    have h := R.zs
    rw [toList_bl, toList_bl, bl_zrs, bl_cut] at h
    rw [show shN p 17 - 19 - 4 * shN p 15 = shN p 17 - (19 + 4 * shN p 15) by omega]
    exact h.symm
  rw [zz]
  have ek : [UInt8.ofNat (((bN p 10 : Nat) : Int)).toNat, 0] = sub p.data.toList 10 2 := by
    rw [sub_two (by omega)]
    have e0 : p.data.toList.getD 11 0 = 0 := by
      have h := R.zero
      rw [bN_getD] at h
      apply UInt8.toNat_inj.1
      exact h
    have e1 : UInt8.ofNat (((bN p 10 : Nat) : Int)).toNat = p.data.toList.getD 10 0 := by
      rw [bN_getD, Int.toNat_natCast]
      exact UInt8.ofNat_toNat
    rw [show 10 + 1 = 11 from rfl, e0, ← e1]
  rw [ek]
  show (((((((([0, 0, 0, 0] ++ _) ++ _) ++ _) ++ _) ++ _) ++ _) ++ _) ++ _) = _
  rw [drop_sub p.data.toList 4 6, drop_sub p.data.toList (4 + 6) 2, drop_sub p.data.toList (4 + 6 + 2) 3, drop_sub p.data.toList (4 + 6 + 2 + 3) 2, drop_sub p.data.toList (4 + 6 + 2 + 3 + 2) 2, drop_sub p.data.toList (4 + 6 + 2 + 3 + 2 + 2) (4 * shN p 15), drop_sub p.data.toList (4 + 6 + 2 + 3 + 2 + 2 + 4 * shN p 15) (shN p 17 - (19 + 4 * shN p 15))]
  rw [show 4 + 6 + 2 + 3 + 2 + 2 + 4 * shN p 15 + (shN p 17 - (19 + 4 * shN p 15)) = shN p 17 by omega]
  simp only [List.append_assoc, z4]
theorem readC_sum {p : ByteArray} (R : RightP p) : shN p 17 + sumS (readC p).recs = 512 := by
  have hl : (p.data.toList.drop (shN p 17)).length = 512 - shN p 17 := by rw [List.length_drop, bl_len, R.size]
  have key : ∀ (l : List ByteArray) (s : LayV), (∀ r ∈ l, r.size ≤ 400) → (l.foldl layS s).recs.length = sumS l + s.recs.length := by
    intro l
    induction l with
    | nil => intro s _; simp [sumS]
    | cons r l ih =>
      intro s h
      rw [List.foldl_cons, ih _ (fun x hx => h x (by simp [hx]))]
      unfold layS
      simp only [sumS]
      by_cases hz : r.size = 0
      · rw [if_pos hz]; dsimp only; omega
      · rw [if_neg hz]
        dsimp only
        rw [List.length_append, bl_len]
        omega
  have h := key (readC p).recs ⟨512, [], []⟩ (by
    intro r hr
    unfold readC at hr
    obtain ⟨i, hi, rfl⟩ := List.mem_map.1 hr
    have := R.slot (List.mem_range.1 hi)
    rw [← bl_len, recAt_bl, sub_len (by rw [bl_len, R.size]; omega)]
    omega)
  have e : layF (readC p).recs = (readC p).recs.foldl layS ⟨512, [], []⟩ := rfl
  rw [← e, readC_lay R] at h
  dsimp only at h
  rw [hl] at h
  have := R.beg
  simp at h
  omega
theorem readC_fits {p : ByteArray} (R : RightP p) : sizeN (readC p).recs ≤ 512 := by
  have := readC_sum R
  have := R.gap
  unfold sizeN
  rw [readC_len]
  omega
theorem recs_small {p : ByteArray} (R : RightP p) : ∀ r ∈ (readC p).recs, r.size ≤ 400 := by
  intro r hr
  unfold readC at hr
  obtain ⟨i, hi, rfl⟩ := List.mem_map.1 hr
  have := R.slot (List.mem_range.1 hi)
  rw [← bl_len, recAt_bl, sub_len (by rw [bl_len, R.size]; omega)]
  omega
/-- No free slot at the end. -/
def Trim (l : List ByteArray) : Prop := ∀ r, l.getLast? = some r → r.size ≠ 0
/-- A content that a page can have. -/
structure CtOk (c : CtV) : Prop where
  lsn : 0 ≤ c.lsn ∧ c.lsn ≤ 281474976710655
  kind : 0 ≤ c.kind ∧ c.kind ≤ 4
  link : 0 ≤ c.link ∧ c.link ≤ 16777215
  fits : sizeN c.recs ≤ 512
  small : ∀ r ∈ c.recs, r.size ≤ 400
  trim : Trim c.recs
theorem chk_flag {l : List (Nat × Nat)} {x : Nat × Nat} {t : Nat × Bool} (h : chk (l ++ [x]) = some t) (hf : t.2 = true) : x.2 ≠ 0 := by
  unfold chk at h
  rw [List.foldlM_append] at h
  cases hc : l.foldlM slotS (512, true) with
  | none => rw [hc] at h; cases h
  | some s =>
    rw [hc] at h
    have h2 : slotS s x = some t := by
      have : (List.foldlM slotS s [x]) = some t := h
      rw [List.foldlM_cons] at this
      cases hq : slotS s x with
      | none => rw [hq] at this; cases this
      | some u => rw [hq] at this; exact this
    unfold slotS at h2
    by_cases h0 : x.1 = 0 ∧ x.2 = 0
    · rw [if_pos h0] at h2
      obtain rfl := Option.some.inj h2
      cases hf
    · rw [if_neg h0] at h2
      by_cases h1 : x.2 < 1 ∨ 400 < x.2 ∨ x.1 + x.2 ≠ s.1
      · rw [if_pos h1] at h2; cases h2
      · omega
theorem readC_trim {p : ByteArray} (R : RightP p) : Trim (readC p).recs := by
  intro r hr
  rcases Nat.eq_zero_or_pos (shN p 15) with h0 | hp
  · have : (readC p).recs = [] := List.eq_nil_of_length_eq_zero (by rw [readC_len, h0])
    rw [this] at hr
    cases hr
  · obtain ⟨m, hm⟩ : ∃ m, shN p 15 = m + 1 := ⟨shN p 15 - 1, by omega⟩
    have e : slotsN p (shN p 15) = slotsN p m ++ [(shN p (19 + 4 * m), shN p (21 + 4 * m))] := by
      unfold slotsN
      rw [hm, List.range_succ, List.map_append]
      rfl
    have hs := R.slots
    rw [e] at hs
    have hne := chk_flag hs rfl
    dsimp only at hne
    have e2 : (readC p).recs.getLast? = some (recAt p m) := by
      rw [List.getLast?_eq_getElem?, readC_len, hm]
      exact recs_at p (by omega)
    rw [e2] at hr
    obtain rfl := Option.some.inj hr
    have := R.slot (i := m) (by omega)
    rw [← bl_len, recAt_bl, sub_len (by rw [bl_len, R.size]; omega)]
    exact hne
theorem readC_ok {p : ByteArray} (R : RightP p) : CtOk (readC p) := by
  have hz := R.size
  have g6 := getP_be (s := p) (a := 4) (k := 6) (by omega) (by omega) (by omega)
  have g3 := getP_be (s := p) (a := 12) (k := 3) (by omega) (by omega) (by omega)
  have h6 := be_in 6 (sub p.data.toList 4 6) (sub_len (by rw [bl_len]; omega))
  have h3 := be_in 3 (sub p.data.toList 12 3) (sub_len (by rw [bl_len]; omega))
  have hk := R.kind
  refine ⟨?_, ?_, ?_, readC_fits R, recs_small R, readC_trim R⟩
  · unfold readC
    dsimp only
    rw [show (getP p 4 6) = _ from g6]
    dsimp only
    omega
  · unfold readC
    dsimp only
    omega
  · unfold readC
    dsimp only
    rw [show (getP p 12 3) = _ from g3]
    dsimp only
    omega
end Go.Proofs.YtfdedkcidemimaaDoor

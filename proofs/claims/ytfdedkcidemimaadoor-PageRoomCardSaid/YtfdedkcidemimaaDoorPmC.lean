/- Pages: what the bytes of a content say. No walk. -/
import Derived.Test.YtfdedkcidemimaaDoorPmB
namespace Go.Proofs.YtfdedkcidemimaaDoor
set_option linter.unusedVariables false
open Go.ChangeShapes Go.WideShapes Go.ChangeAt Go.RowKit

theorem sub_skip {x y : List UInt8} {a i n : Nat} (h : x.length = a) : sub (x ++ y) (a + i) n = sub y i n := by
  unfold sub
  rw [List.drop_append, List.drop_of_length_le (by omega), h, Nat.add_sub_cancel_left, List.nil_append]
theorem sub_head {y z : List UInt8} {n : Nat} (h : y.length = n) : sub (y ++ z) 0 n = y := by
  unfold sub
  rw [List.drop_zero, List.take_append_of_le_length (by omega), List.take_of_length_le (by omega)]
theorem sub_sub {l : List UInt8} {a n i m : Nat} (h : i + m ≤ n) : sub (sub l a n) i m = sub l (a + i) m := by
  unfold sub
  rw [List.drop_take, List.drop_drop, List.take_take, Nat.min_eq_left (by omega)]
theorem fold_more : ∀ (l : List ByteArray) (s : LayV), ∃ m r, (l.foldl layS s).slots = s.slots ++ m ∧ (l.foldl layS s).recs = r ++ s.recs
  | [], s => ⟨[], [], by simp, by simp⟩
  | x :: l, s => by
    obtain ⟨m, r, h1, h2⟩ := fold_more l (layS s x)
    rw [List.foldl_cons, h1, h2]
    unfold layS
    by_cases hz : x.size = 0
    · rw [if_pos hz]
      exact ⟨[0, 0, 0, 0] ++ m, r, by simp, rfl⟩
    · rw [if_neg hz]
      exact ⟨[hiB (s.at' - x.size), loB (s.at' - x.size), hiB x.size, loB x.size] ++ m, r ++ x.data.toList, by simp, by simp⟩
/-- The slot of a record. -/
def slotOf (l : List ByteArray) (i : Nat) (r : ByteArray) : Nat × Nat := if r.size = 0 then (0, 0) else ((layF (l.take i)).at' - r.size, r.size)
theorem slot_four {l : List ByteArray} {i : Nat} {r : ByteArray} (h : l[i]? = some r) : ∃ m u, (layF l).slots = (layF (l.take i)).slots ++ ([hiB (slotOf l i r).1, loB (slotOf l i r).1, hiB (slotOf l i r).2, loB (slotOf l i r).2] ++ m) ∧ (layF l).recs = u ++ (r.data.toList ++ (layF (l.take i)).recs) := by
  have e : layF l = (l.drop (i + 1)).foldl layS (layF (l.take (i + 1))) := by
    unfold layF
    rw [← List.foldl_append, List.take_append_drop]
  obtain ⟨m, u, h1, h2⟩ := fold_more (l.drop (i + 1)) (layF (l.take (i + 1)))
  rw [e, h1, h2, layF_next h]
  unfold slotOf layS
  by_cases hz : r.size = 0
  · rw [if_pos hz, if_pos hz]
    have hr : r.data.toList = [] := List.eq_nil_of_length_eq_zero (by rw [bl_len]; exact hz)
    refine ⟨m, u, ?_, ?_⟩
    · show _ ++ [0, 0, 0, 0] ++ m = _ ++ ([0, 0, 0, 0] ++ m)
      rw [List.append_assoc]
    · rw [hr]
      rfl
  · rw [if_neg hz, if_neg hz]
    exact ⟨m, u, by simp, by simp⟩
theorem be_hl {x : Nat} (h : x < 65536) : be [hiB x, loB x] = x := by
  have := sh_hl h
  unfold be
  simp only [List.foldl_cons, List.foldl_nil]
  omega
theorem be_put {k : Nat} {n : Int} (h0 : 0 ≤ n) (h1 : n < 256 ^ k) : be ((strOfNums (putL n k)).data.toList) = n := by
  rw [strOf_list, be_putL, Int.emod_eq_of_lt h0 h1]
theorem put_len (n : Int) (k : Nat) : ((strOfNums (putL n k)).data.toList).length = k := by rw [bl_len, strOf_size, putL_len]
/-- The bytes of a content. -/
theorem layL_bl (c : CtV) : (layL c).data.toList = z4 ++ ((strOfNums (putL c.lsn 6)).data.toList ++ ([UInt8.ofNat c.kind.toNat, 0] ++ ((strOfNums (putL c.link 3)).data.toList ++ ((strOfNums (putL c.recs.length 2)).data.toList ++ ((strOfNums (putL (layF c.recs).at' 2)).data.toList ++ ((layF c.recs).slots ++ (List.replicate ((layF c.recs).at' - 19 - 4 * c.recs.length) 0 ++ (layF c.recs).recs))))))) := by
  unfold layL headL
  rw [bl_app, bl_app, bl_app, bl_app, bl_app, bl_app, bl_app, bl_app, bl_bytesOf, bl_bytesOf, bl_zrs]
  simp only [List.append_assoc]
  rfl
theorem fit_lay {c : CtV} (h : sizeN c.recs ≤ 512) : LayOk c.recs (layF c.recs) := by
  unfold sizeN at h
  have := layF_ok c.recs c.recs.length (Nat.le_refl _) (by omega)
  rw [List.take_of_length_le (Nat.le_refl _)] at this
  exact this
/-- What lies where. -/
structure LayAt (c : CtV) (D : List UInt8) : Prop where
  len : D.length = 512
  lsn : be (sub D 4 6) = c.lsn
  kind : D.getD 10 0 = UInt8.ofNat c.kind.toNat
  zero : D.getD 11 0 = 0
  link : be (sub D 12 3) = c.link
  n : be (sub D 15 2) = c.recs.length
  beg : be (sub D 17 2) = (layF c.recs).at'
  slots : sub D 19 (4 * c.recs.length) = (layF c.recs).slots
  zs : sub D (19 + 4 * c.recs.length) ((layF c.recs).at' - 19 - 4 * c.recs.length) = List.replicate ((layF c.recs).at' - 19 - 4 * c.recs.length) 0
  recs : ∃ x, D = x ++ (layF c.recs).recs ∧ x.length = (layF c.recs).at'
theorem lay_at {c : CtV} (h : CtOk c) : LayAt c (layL c).data.toList := by
  have hf := h.fits
  obtain ⟨h1, h2, h3⟩ := fit_lay hf
  have hl : (layL c).data.toList.length = 512 := by rw [bl_len]; exact layL_size c hf
  unfold sizeN at hf
  rw [layL_bl] at hl ⊢
  have e6 := put_len c.lsn 6
  have e3 := put_len c.link 3
  have en := put_len c.recs.length 2
  have eb := put_len (layF c.recs).at' 2
  have b6 := be_put (k := 6) h.lsn.1 (by have := h.lsn.2; omega)
  have b3 := be_put (k := 3) h.link.1 (by have := h.link.2; omega)
  have bn := be_put (k := 2) (n := c.recs.length) (by omega) (by omega)
  have bb := be_put (k := 2) (n := (layF c.recs).at') (by omega) (by omega)
  generalize (strOfNums (putL c.lsn 6)).data.toList = L6 at *
  generalize (strOfNums (putL c.link 3)).data.toList = L3 at *
  generalize (strOfNums (putL c.recs.length 2)).data.toList = Ln at *
  generalize (strOfNums (putL (layF c.recs).at' 2)).data.toList = Lb at *
  have ez : z4.length = 4 := rfl
  generalize z4 = Z at *
  obtain ⟨LK, hLK⟩ : ∃ LK, [UInt8.ofNat c.kind.toNat, 0] = LK := ⟨_, rfl⟩
  have ek : LK.length = 2 := by rw [← hLK]; rfl
  have k0 : LK.getD 0 0 = UInt8.ofNat c.kind.toNat := by rw [← hLK]; rfl
  have k1 : LK.getD 1 0 = 0 := by rw [← hLK]; rfl
  rw [hLK] at hl ⊢
  obtain ⟨zz, hzz⟩ : ∃ zz, List.replicate ((layF c.recs).at' - 19 - 4 * c.recs.length) (0 : UInt8) = zz := ⟨_, rfl⟩
  have ezz : zz.length = (layF c.recs).at' - 19 - 4 * c.recs.length := by rw [← hzz, List.length_replicate]
  rw [hzz] at hl ⊢
  obtain ⟨D, hD⟩ : ∃ D, Z ++ (L6 ++ (LK ++ (L3 ++ (Ln ++ (Lb ++ ((layF c.recs).slots ++ (zz ++ (layF c.recs).recs))))))) = D := ⟨_, rfl⟩
  have s10 : sub D 10 2 = LK := by
    rw [← hD, show 10 = 4 + (6 + 0) from rfl, sub_skip ez, sub_skip e6, sub_head ek]
  have hk0 : D.getD 10 0 = UInt8.ofNat c.kind.toNat := by
    have := sub_getD (l := D) (a := 10) (n := 2) (i := 0) (by omega)
    rw [s10, k0] at this
    exact this.symm
  have hk1 : D.getD 11 0 = 0 := by
    have := sub_getD (l := D) (a := 10) (n := 2) (i := 1) (by omega)
    rw [s10, k1] at this
    exact this.symm
  rw [hD] at hl
  rw [hD]
  refine ⟨hl, ?_, hk0, hk1, ?_, ?_, ?_, ?_, ?_, ?_⟩
  · rw [← hD, show 4 = 4 + 0 from rfl, sub_skip ez, sub_head e6]
    exact b6
  · rw [← hD, show 12 = 4 + (6 + (2 + 0)) from rfl, sub_skip ez, sub_skip e6, sub_skip ek, sub_head e3]
    exact b3
  · rw [← hD, show 15 = 4 + (6 + (2 + (3 + 0))) from rfl, sub_skip ez, sub_skip e6, sub_skip ek, sub_skip e3, sub_head en]
    exact bn
  · rw [← hD, show 17 = 4 + (6 + (2 + (3 + (2 + 0)))) from rfl, sub_skip ez, sub_skip e6, sub_skip ek, sub_skip e3, sub_skip en, sub_head eb]
    exact bb
  · rw [← hD, show 19 = 4 + (6 + (2 + (3 + (2 + (2 + 0))))) from rfl, sub_skip ez, sub_skip e6, sub_skip ek, sub_skip e3, sub_skip en, sub_skip eb, sub_head h2]
  · rw [← hD, show 19 + 4 * c.recs.length = 4 + (6 + (2 + (3 + (2 + (2 + (4 * c.recs.length + 0)))))) by omega, sub_skip ez, sub_skip e6, sub_skip ek, sub_skip e3, sub_skip en, sub_skip eb, sub_skip h2, sub_head ezz]
    exact hzz.symm
  · refine ⟨Z ++ (L6 ++ (LK ++ (L3 ++ (Ln ++ (Lb ++ ((layF c.recs).slots ++ zz)))))), by rw [← hD]; simp only [List.append_assoc], ?_⟩
    simp only [List.length_append, ez, e6, ek, e3, en, eb, h2, ezz]
    omega
section
variable {c : CtV} (h : CtOk c)
include h
theorem q_size : (layL c).size = 512 := layL_size c h.fits
theorem q_n : shN (layL c) 15 = c.recs.length := by
  have := shN_be (p := layL c) (i := 15) (by rw [q_size h]; omega)
  rw [(lay_at h).n] at this
  omega
theorem q_beg : shN (layL c) 17 = (layF c.recs).at' := by
  have := shN_be (p := layL c) (i := 17) (by rw [q_size h]; omega)
  rw [(lay_at h).beg] at this
  omega
theorem slotOf_lt {i : Nat} {r : ByteArray} (hr : c.recs[i]? = some r) : (slotOf c.recs i r).1 < 65536 ∧ (slotOf c.recs i r).2 ≤ 400 ∧ ((slotOf c.recs i r).2 = r.size) ∧ (r.size ≠ 0 → (slotOf c.recs i r).1 + r.size = (layF (c.recs.take i)).at') := by
  have hs : r.size ≤ 400 := h.small r (List.mem_of_getElem? hr)
  have hi : i < c.recs.length := (List.getElem?_eq_some_iff.1 hr).1
  have hf := h.fits
  unfold sizeN at hf
  have h1 := (layF_ok c.recs i (by omega) (by omega)).at'
  have h2 := (layF_ok c.recs (i + 1) (by omega) (by omega)).at'
  rw [layF_next hr] at h2
  have h3 : sumS (c.recs.take (i + 1)) = sumS (c.recs.take i) + r.size := by rw [take_at hr, sumS_append]; simp [sumS]
  have h4 := sumS_take c.recs (i + 1)
  unfold slotOf
  by_cases hz : r.size = 0
  · rw [if_pos hz]
    exact ⟨by omega, by omega, hz.symm, fun hne => absurd hz hne⟩
  · rw [if_neg hz]
    refine ⟨?_, hs, rfl, fun _ => ?_⟩
    · show (layF (c.recs.take i)).at' - r.size < 65536
      omega
    · show (layF (c.recs.take i)).at' - r.size + r.size = _
      omega
theorem q_slot {i : Nat} {r : ByteArray} (hr : c.recs[i]? = some r) : shN (layL c) (19 + 4 * i) = (slotOf c.recs i r).1 ∧ shN (layL c) (21 + 4 * i) = (slotOf c.recs i r).2 := by
  have hi : i < c.recs.length := (List.getElem?_eq_some_iff.1 hr).1
  have hf := h.fits
  unfold sizeN at hf
  have hz := q_size h
  obtain ⟨a1, a2, _, _⟩ := slotOf_lt h hr
  obtain ⟨m, u, hm, hu⟩ := slot_four hr
  have hk : (layF (c.recs.take i)).slots.length = 4 * i := by
    rw [(layF_ok c.recs i (by omega) (by omega)).slots, List.length_take]
    omega
  have s1 : sub (layL c).data.toList (19 + 4 * i) 2 = [hiB (slotOf c.recs i r).1, loB (slotOf c.recs i r).1] := by
    rw [← sub_sub (a := 19) (n := 4 * c.recs.length) (i := 4 * i) (m := 2) (by omega), (lay_at h).slots, hm, show 4 * i = 4 * i + 0 from rfl, sub_skip hk]
    rfl
  have s2 : sub (layL c).data.toList (21 + 4 * i) 2 = [hiB (slotOf c.recs i r).2, loB (slotOf c.recs i r).2] := by
    rw [show 21 + 4 * i = 19 + (4 * i + 2) by omega, ← sub_sub (a := 19) (n := 4 * c.recs.length) (i := 4 * i + 2) (m := 2) (by omega), (lay_at h).slots, hm, sub_skip hk]
    rfl
  have t1 := shN_be (p := layL c) (i := 19 + 4 * i) (by omega)
  have t2 := shN_be (p := layL c) (i := 21 + 4 * i) (by omega)
  rw [s1, be_hl a1] at t1
  rw [s2, be_hl (by omega)] at t2
  omega
theorem q_rec {i : Nat} {r : ByteArray} (hr : c.recs[i]? = some r) : recAt (layL c) i = r := by
  apply bl_ext
  obtain ⟨a1, a2, a3, a4⟩ := slotOf_lt h hr
  obtain ⟨b1, b2⟩ := q_slot h hr
  rw [recAt_bl, b1, b2, a3]
  have hi : i < c.recs.length := (List.getElem?_eq_some_iff.1 hr).1
  have hf := h.fits
  unfold sizeN at hf
  by_cases hz : r.size = 0
  · rw [hz]
    have : r.data.toList = [] := List.eq_nil_of_length_eq_zero (by rw [bl_len]; exact hz)
    rw [this]
    rfl
  · obtain ⟨m, u, hm, hu⟩ := slot_four hr
    obtain ⟨x, hx, hxl⟩ := (lay_at h).recs
    have hlen := (lay_at h).len
    have ok := layF_ok c.recs i (by omega) (by omega)
    have h4 := a4 hz
    rw [hx, hu] at hlen ⊢
    simp only [List.length_append, ok.recs, bl_len] at hlen
    have hok := ok.at'
    rw [← List.append_assoc, ← List.append_assoc]
    exact sub_at (by rw [List.length_append]; omega) (bl_len r)
def flagOf (l : List ByteArray) : Nat → Bool
  | 0 => true
  | k + 1 => decide ((l.getD k ⟨#[]⟩).size ≠ 0)
theorem q_chk : ∀ k, k ≤ c.recs.length → chk ((slotsN (layL c) (shN (layL c) 15)).take k) = some ((layF (c.recs.take k)).at', flagOf c.recs k)
  | 0, _ => rfl
  | k + 1, hk => by
    have ih := q_chk k (by omega)
    have hr : c.recs[k]? = some c.recs[k] := List.getElem?_eq_getElem (by omega)
    obtain ⟨a1, a2, a3, a4⟩ := slotOf_lt h hr
    obtain ⟨b1, b2⟩ := q_slot h hr
    have hx := slotsN_at (layL c) (n := shN (layL c) 15) (i := k) (by rw [q_n h]; omega)
    rw [b1, b2] at hx
    rw [chk_step hx ih, layF_next hr]
    have hg : c.recs.getD k ⟨#[]⟩ = c.recs[k] := by rw [List.getD_eq_getElem?_getD, hr]; rfl
    have hfl : flagOf c.recs (k + 1) = decide (c.recs[k].size ≠ 0) := by
      show decide ((c.recs.getD k ⟨#[]⟩).size ≠ 0) = _
      rw [hg]
    rw [hfl]
    generalize flagOf c.recs k = fl
    unfold slotS layS
    dsimp only
    by_cases hz : c.recs[k].size = 0
    · have e : slotOf c.recs k c.recs[k] = (0, 0) := by unfold slotOf; rw [if_pos hz]
      rw [e, if_pos ⟨rfl, rfl⟩, if_pos hz]
      simp [hz]
    · have h4 := a4 hz
      rw [if_neg (by omega), if_neg (by omega), if_neg hz]
      have : (slotOf c.recs k c.recs[k]).1 = (layF (c.recs.take k)).at' - c.recs[k].size := by omega
      rw [this]
      simp [hz]
theorem lay_right' : RightP (layL c) := by
  have hz := q_size h
  have hf := h.fits
  have ok := fit_lay h.fits
  unfold sizeN at hf
  have hat := ok.at'
  have A := lay_at h
  refine ⟨hz, ?_, ?_, ?_, ?_, ?_, ?_⟩
  · rw [bN_getD, A.kind, UInt8.toNat_ofNat']
    have := h.kind
    omega
  · rw [bN_getD, A.zero]
    rfl
  · rw [q_n h, q_beg h]
    omega
  · rw [q_beg h]
    omega
  · rw [q_n h, q_beg h, toList_bl, toList_bl, bl_cut, bl_zrs, show (layF c.recs).at' - (19 + 4 * c.recs.length) = (layF c.recs).at' - 19 - 4 * c.recs.length by omega]
    have hq := A.zs
    unfold sub at hq
    exact hq
  · have hc := q_chk h c.recs.length (Nat.le_refl _)
    rw [List.take_of_length_le (by rw [slotsN_len, q_n h]; exact Nat.le_refl _), List.take_of_length_le (Nat.le_refl _)] at hc
    rw [hc, q_beg h]
    have hfl : flagOf c.recs c.recs.length = true := by
     rcases Nat.eq_zero_or_pos c.recs.length with h0 | hp
     · rw [h0]
       rfl
     · obtain ⟨m, hm⟩ : ∃ m, c.recs.length = m + 1 := ⟨c.recs.length - 1, by omega⟩
       have hr : c.recs[m]? = some c.recs[m] := List.getElem?_eq_getElem (by omega)
       have hl : c.recs.getLast? = some c.recs[m] := by rw [List.getLast?_eq_getElem?, show c.recs.length - 1 = m by omega]; exact hr
       have := h.trim _ hl
       have hg : c.recs.getD m ⟨#[]⟩ = c.recs[m] := by rw [List.getD_eq_getElem?_getD, hr]; rfl
       rw [hm]
       show decide ((c.recs.getD m ⟨#[]⟩).size ≠ 0) = true
       rw [hg]
       simp [this]
    rw [hfl]
/-- What is laid is read again. -/
theorem read_lay : readC (layL c) = c := by
  have hz := q_size h
  have A := lay_at h
  have g6 := getP_be (s := layL c) (a := 4) (k := 6) (by omega) (by omega) (by omega)
  have g3 := getP_be (s := layL c) (a := 12) (k := 3) (by omega) (by omega) (by omega)
  have hk := h.kind
  have hrecs : (List.range (shN (layL c) 15)).map (recAt (layL c)) = c.recs := by
    apply List.ext_getElem?
    intro i
    rw [q_n h, List.getElem?_map]
    by_cases hi : i < c.recs.length
    · have hr : c.recs[i]? = some c.recs[i] := List.getElem?_eq_getElem hi
      rw [List.getElem?_range hi, hr, Option.map_some, q_rec h hr]
    · rw [List.getElem?_eq_none (by simp; omega), List.getElem?_eq_none (by omega)]
      rfl
  obtain ⟨x, y, z, l⟩ := c
  unfold readC
  rw [hrecs, show (getP _ 4 6) = _ from g6, show (getP _ 12 3) = _ from g3]
  dsimp only
  rw [A.lsn, A.link, bN_getD, A.kind, UInt8.toNat_ofNat']
  dsimp only at hk ⊢
  have e : ((y.toNat % 2 ^ 8 : Nat) : Int) = y := by omega
  rw [e]
end
end Go.Proofs.YtfdedkcidemimaaDoor

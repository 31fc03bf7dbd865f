/- Pages: what does not depend on the sum; what is made of a right page. No walk. -/
import Derived.Test.YtfdedkcidemimaaDoorPmC
import Derived.Test.YtfdedkcidemimaaDoorPnD
namespace Go.Proofs.YtfdedkcidemimaaDoor
set_option linter.unusedVariables false
open Go.ChangeShapes Go.WideShapes Go.ChangeAt Go.RowKit

section
variable {p q : ByteArray} (hp : p.size = 512) (hq : q.size = 512) (h : p.data.toList.drop 4 = q.data.toList.drop 4)
include h
theorem tail_sub {a n : Nat} (ha : 4 ≤ a) : sub p.data.toList a n = sub q.data.toList a n := by
  obtain ⟨b, rfl⟩ : ∃ b, a = 4 + b := ⟨a - 4, by omega⟩
  unfold sub
  rw [← List.drop_drop, h, List.drop_drop]
theorem tail_get {a : Nat} (ha : 4 ≤ a) : p.data.toList.getD a 0 = q.data.toList.getD a 0 := by
  obtain ⟨b, rfl⟩ : ∃ b, a = 4 + b := ⟨a - 4, by omega⟩
  rw [List.getD_eq_getElem?_getD, List.getD_eq_getElem?_getD, ← List.getElem?_drop, h, List.getElem?_drop]
theorem tail_bN {a : Nat} (ha : 4 ≤ a) : bN p a = bN q a := by rw [bN_getD, bN_getD, tail_get h ha]
theorem tail_sh {a : Nat} (ha : 4 ≤ a) : shN p a = shN q a := by unfold shN; rw [tail_bN h ha, tail_bN h (by omega)]
theorem tail_slots (n : Nat) : slotsN p n = slotsN q n := by
  unfold slotsN
  apply List.map_congr_left
  intro i _
  rw [tail_sh h (by omega), tail_sh h (by omega)]
include hp hq
omit hp in
theorem tail_right (R : RightP p) : RightP q := by
  have e15 := tail_sh h (a := 15) (by omega)
  have e17 := tail_sh h (a := 17) (by omega)
  refine ⟨hq, ?_, ?_, ?_, ?_, ?_, ?_⟩
  · rw [← tail_bN h (by omega)]; exact R.kind
  · rw [← tail_bN h (by omega)]; exact R.zero
  · rw [← e15, ← e17]; exact R.gap
  · rw [← e17]; exact R.beg
  · have hz := R.zs
    rw [toList_bl, toList_bl, bl_cut] at hz ⊢
    rw [← e15, ← e17, ← hz]
    exact (tail_sub h (by omega)).symm
  · rw [← e15, ← e17, ← tail_slots h]; exact R.slots
theorem tail_read (R : RightP p) : readC p = readC q := by
  have e15 := tail_sh h (a := 15) (by omega)
  have g6 := getP_be (s := p) (a := 4) (k := 6) (by omega) (by omega) (by omega)
  have g3 := getP_be (s := p) (a := 12) (k := 3) (by omega) (by omega) (by omega)
  have g6' := getP_be (s := q) (a := 4) (k := 6) (by omega) (by omega) (by omega)
  have g3' := getP_be (s := q) (a := 12) (k := 3) (by omega) (by omega) (by omega)
  rw [tail_sub h (by omega)] at g6 g3
  have hrec : (List.range (shN p 15)).map (recAt p) = (List.range (shN q 15)).map (recAt q) := by
    rw [e15]
    apply List.map_congr_left
    intro i hi
    have hi2 := List.mem_range.1 hi
    apply bl_ext
    rw [recAt_bl, recAt_bl, ← tail_sh h (by omega), ← tail_sh h (by omega)]
    have hs := R.slot (i := i) (by omega)
    rcases Nat.eq_zero_or_pos (shN p (21 + 4 * i)) with h0 | h0
    · rw [h0]
      unfold sub
      simp
    · have hc : 4 ≤ shN p (19 + 4 * i) := by
        have hx := slotsN_at p (n := shN p 15) (i := i) (by omega)
        have hsl := R.slots
        cases hk : chk ((slotsN p (shN p 15)).take i) with
        | none => rw [chk_none hk] at hsl; cases hsl
        | some t =>
          cases hk2 : chk ((slotsN p (shN p 15)).take (i + 1)) with
          | none => rw [chk_none hk2] at hsl; cases hsl
          | some u =>
            have hst := hk2
            rw [chk_step hx hk] at hst
            have hle : shN p 17 ≤ u.1 := by
              have key : ∀ d, i + 1 + d ≤ shN p 15 → ∀ v, chk ((slotsN p (shN p 15)).take (i + 1 + d)) = some v → v.1 ≤ u.1 := by
                intro d
                induction d with
                | zero =>
                  intro _ v hv
                  rw [Nat.add_zero, hk2] at hv
                  obtain rfl := Option.some.inj hv
                  exact Nat.le_refl _
                | succ d ih =>
                  intro hd v hv
                  cases hk3 : chk ((slotsN p (shN p 15)).take (i + 1 + d)) with
                  | none => rw [chk_none' (by omega) hk3] at hv; cases hv
                  | some v' =>
                    have h1 := ih (by omega) v' hk3
                    have hy := slotsN_at p (n := shN p 15) (i := i + 1 + d) (by omega)
                    rw [show i + 1 + (d + 1) = i + 1 + d + 1 by omega, chk_step hy hk3] at hv
                    have := (slotS_le hv).1
                    omega
              have hlast : chk ((slotsN p (shN p 15)).take (i + 1 + (shN p 15 - (i + 1)))) = some (shN p 17, true) := by
                rw [List.take_of_length_le (by rw [slotsN_len]; omega)]
                exact hsl
              exact key (shN p 15 - (i + 1)) (by omega) _ hlast
            unfold slotS at hst
            dsimp only at hst
            rw [if_neg (by omega)] at hst
            by_cases hB : shN p (21 + 4 * i) < 1 ∨ 400 < shN p (21 + 4 * i) ∨ shN p (19 + 4 * i) + shN p (21 + 4 * i) ≠ t.1
            · rw [if_pos hB] at hst; cases hst
            · rw [if_neg hB] at hst
              obtain rfl := Option.some.inj hst
              dsimp only at hle
              have := R.gap
              omega
      exact tail_sub h hc
  unfold readC
  rw [show (getP p 4 6) = _ from g6, show (getP p 12 3) = _ from g3, show (getP q 4 6) = _ from g6', show (getP q 12 3) = _ from g3', hrec, tail_bN h (by omega)]
end
/-- A page of a content. -/
theorem lay_tail {p : ByteArray} (R : RightP p) : (layL (readC p)).data.toList.drop 4 = p.data.toList.drop 4 := by
  rw [lay_read R]
  rfl
theorem lay_eq {p : ByteArray} (R : RightP p) : layL (readC p) = ⟨#[0, 0, 0, 0]⟩ ++ p.extract 4 p.size := by
  apply bl_ext
  rw [lay_read R, bl_app, bl_cut, List.take_of_length_le (by rw [List.length_drop, bl_len]; omega)]
  rfl
theorem trimN_le (l : List ByteArray) : ∀ k, trimN l k ≤ k
  | 0 => Nat.le_refl _
  | k + 1 => by
    unfold trimN
    have := trimN_le l k
    split
    · omega
    · omega
theorem trimN_all {l : List ByteArray} (h : Trim l) : trimN l l.length = l.length := by
  cases hn : l.length with
  | zero => rfl
  | succ m =>
    unfold trimN
    have hr : l[m]? = some l[m] := List.getElem?_eq_getElem (by omega)
    have hl : l.getLast? = some l[m] := by rw [List.getLast?_eq_getElem?, show l.length - 1 = m by omega]; exact hr
    have hg : l.getD m .empty = l[m] := by rw [List.getD_eq_getElem?_getD, hr]; rfl
    rw [hg, if_neg (h _ hl)]
theorem trim_take (l : List ByteArray) : ∀ k, k ≤ l.length → Trim (l.take (trimN l k))
  | 0, _ => by intro r hr; simp [trimN] at hr
  | k + 1, hk => by
    unfold trimN
    have hr : l[k]? = some l[k] := List.getElem?_eq_getElem (by omega)
    have hg : l.getD k .empty = l[k] := by rw [List.getD_eq_getElem?_getD, hr]; rfl
    rw [hg]
    by_cases hz : l[k].size = 0
    · rw [if_pos hz]
      exact trim_take l k (by omega)
    · rw [if_neg hz]
      intro r hr2
      rw [take_at hr, List.getLast?_append] at hr2
      simp at hr2
      rw [← hr2]
      exact hz
def trimmed (l : List ByteArray) : List ByteArray := l.take (trimN l l.length)
theorem trimmed_all {l : List ByteArray} (h : Trim l) : trimmed l = l := by unfold trimmed; rw [trimN_all h, List.take_of_length_le (Nat.le_refl _)]
theorem madeS_eq (c : CtV) : madeS c = if 512 < sizeN (trimmed c.recs) then (⟨#[]⟩, 18) else (layL (withR c (trimmed c.recs)), 0) := rfl
end Go.Proofs.YtfdedkcidemimaaDoor

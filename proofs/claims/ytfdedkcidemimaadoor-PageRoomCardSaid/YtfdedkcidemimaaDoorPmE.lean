/- Pages: right as the reference tells it. No walk. -/
import Derived.Test.YtfdedkcidemimaaDoorPrC
namespace Go.Proofs.YtfdedkcidemimaaDoor
set_option linter.unusedVariables false
open Go.ChangeShapes Go.WideShapes Go.ChangeAt Go.RowKit

theorem withR_self (c : CtV) : withR c c.recs = c := rfl
theorem layR_right {p : ByteArray} (R : RightP p) : layR (readC p) = layL (readC p) := by
  unfold layR
  rw [trimmed_all (readC_trim R), if_pos (readC_fits R), withR_self]
theorem layR_ok {c : CtV} (h : CtOk c) : layR c = layL c := by
  unfold layR
  rw [trimmed_all h.trim, if_pos h.fits, withR_self]
/-- The slots of a page lie in it. -/
def SlotsIn (p : ByteArray) (k : Nat) : Prop := ∀ i, i < k → shN p (19 + 4 * i) + shN p (21 + 4 * i) ≤ 512 ∧ shN p (21 + 4 * i) ≤ 400
theorem slotsIn_succ {p : ByteArray} {k : Nat} (hs : SlotsIn p k) (h : shN p (19 + 4 * k) + shN p (21 + 4 * k) ≤ 512 ∧ shN p (21 + 4 * k) ≤ 400) : SlotsIn p (k + 1) := by
  intro i hi
  rcases Nat.lt_or_ge i k with h1 | h1
  · exact hs i h1
  · obtain rfl : i = k := by omega
    exact h
theorem right_iff {p : ByteArray} (hz : p.size = 512) (hk : bN p 10 ≤ 4) (hs : SlotsIn p (shN p 15)) : RightP p ↔ (layR (readC p)).size = 512 ∧ (layR (readC p)).data.toList.drop 4 = p.data.toList.drop 4 := by
  constructor
  · intro R
    rw [layR_right R]
    exact ⟨layL_size _ (readC_fits R), lay_tail R⟩
  · rintro ⟨h1, h2⟩
    unfold layR at h1 h2
    by_cases hf : sizeN (trimmed (readC p).recs) ≤ 512
    · rw [if_pos hf] at h1 h2
      have g6 := getP_be (s := p) (a := 4) (k := 6) (by omega) (by omega) (by omega)
      have g3 := getP_be (s := p) (a := 12) (k := 3) (by omega) (by omega) (by omega)
      have h6 := be_in 6 (sub p.data.toList 4 6) (sub_len (by rw [bl_len]; omega))
      have h3 := be_in 3 (sub p.data.toList 12 3) (sub_len (by rw [bl_len]; omega))
      have ok : CtOk (withR (readC p) (trimmed (readC p).recs)) := by
        refine ⟨?_, ?_, ?_, hf, ?_, ?_⟩
        · unfold withR readC
          dsimp only
          rw [show (getP p 4 6) = _ from g6]
          dsimp only
          omega
        · unfold withR readC
          dsimp only
          omega
        · unfold withR readC
          dsimp only
          rw [show (getP p 12 3) = _ from g3]
          dsimp only
          omega
        · intro r hr
          have hr2 : r ∈ (readC p).recs := List.mem_of_mem_take hr
          unfold readC at hr2
          obtain ⟨i, hi, rfl⟩ := List.mem_map.1 hr2
          have := hs i (List.mem_range.1 hi)
          rw [← bl_len, recAt_bl, sub_len (by rw [bl_len, hz]; omega)]
          omega
        · exact trim_take _ _ (Nat.le_refl _)
      exact tail_right hz h2 (lay_right' ok)
    · rw [if_neg hf] at h1
      cases h1
theorem slots_right {p : ByteArray} (R : RightP p) : SlotsIn p (shN p 15) := fun i hi => by have := R.slot hi; omega
theorem right_not {p : ByteArray} (h : ¬ RightP p) : rightB p = false := by
  cases hr : rightB p with
  | false => rfl
  | true => exact absurd ((rightP_iff p).mp hr) h
theorem readC_small {p : ByteArray} (hs : SlotsIn p (shN p 15)) (hn : shN p 15 ≤ 200) : sizeN (readC p).recs ≤ 1048576 := by
  have h1 : sumS (readC p).recs ≤ 512 * (readC p).recs.length := by
    apply sumS_le
    intro r hr
    unfold readC at hr
    obtain ⟨i, hi, rfl⟩ := List.mem_map.1 hr
    have := hs i (List.mem_range.1 hi)
    have hle : (recAt p i).size ≤ shN p (21 + 4 * i) := by
      unfold recAt
      rw [ByteArray.size_extract]
      omega
    omega
  unfold sizeN
  rw [readC_len] at h1 ⊢
  omega
theorem getP1 {p : ByteArray} {i : Nat} (h : i < p.size) : (getP p i 1).1 = bN p i := by
  have := getP_be (s := p) (a := i) (k := 1) (by omega) (by omega) (by omega)
  rw [show (getP p i 1) = _ from this, bN_be h]
theorem getP2 {p : ByteArray} {i : Nat} (h : i + 1 < p.size) : (getP p i 2).1 = shN p i := by
  have := getP_be (s := p) (a := i) (k := 2) (by omega) (by omega) (by omega)
  rw [show (getP p i 2) = _ from this, shN_be h]
/-- A page of the reference's, and whether it is one. -/
def GivesP (w : World) (p : ByteArray) (e : Ending) (w' : World) : Prop := ∃ x y z A n cp, e = .returned (.tuple #[.agg #[.int .i64 x, .int .i64 y, .int .i64 z, .slice A n cp], .bool (rightB p)]) ∧ Below w.heap.size w w' ∧ (rightB p = true → x = (readC p).lsn ∧ y = (readC p).kind ∧ z = (readC p).link ∧ n = (readC p).recs.length ∧ OwnS w' w.heap.size (.slice A n cp) (readC p).recs)
end Go.Proofs.YtfdedkcidemimaaDoor

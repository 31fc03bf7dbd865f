/- Cuts: how many sectors of a page a disk still takes, and what is read behind it. No walk. -/
import Derived.Test.YtdfpmjfnlcccaaaDkY
namespace Go.Proofs.Ytdfpmjfnlcccaaa
set_option linter.unusedVariables false
open Go.ChangeShapes Go.WideShapes Go.ChangeAt Go.RowKit

/-- Eighty sectors, each full of one byte. -/
def secsOf (bs : Nat → UInt8) : List ByteArray := (List.range 80).map fun i => repS 128 (bs i)
theorem secsOf_len (bs : Nat → UInt8) : (secsOf bs).length = 80 := by simp [secsOf]
theorem secsOf_at (bs : Nat → UInt8) {i : Nat} (h : i < 80) : (secsOf bs)[i]? = some (repS 128 (bs i)) := by simp [secsOf, h]
theorem secsOf_congr {f g : Nat → UInt8} (h : ∀ i, i < 80 → f i = g i) : secsOf f = secsOf g := by
  unfold secsOf
  refine List.map_congr_left fun i hi => ?_
  rw [h i (List.mem_range.1 hi)]
theorem secsOf_set (bs : Nat → UInt8) (a : Nat) (c : UInt8) : (secsOf bs).set a (repS 128 c) = secsOf (fun i => if i = a then c else bs i) := by
  apply List.ext_getElem?
  intro i
  by_cases h80 : i < 80
  · rw [secsOf_at _ h80]
    by_cases h : a = i
    · subst h
      rw [List.getElem?_set_self (by rw [secsOf_len]; exact h80)]
      simp
    · rw [List.getElem?_set_ne h, secsOf_at _ h80]
      have h2 : ¬ i = a := fun e => h e.symm
      simp [h2]
  · rw [List.getElem?_eq_none (by rw [List.length_set, secsOf_len]; omega), List.getElem?_eq_none (by rw [secsOf_len]; omega)]
/-- m bytes from a on are c. -/
def upd (bs : Nat → UInt8) (a m : Nat) (c : UInt8) : Nat → UInt8 := fun i => if a ≤ i ∧ i < a + m then c else bs i
theorem upd_zero (bs : Nat → UInt8) (a : Nat) (c : UInt8) : upd bs a 0 c = bs := by
  funext i
  unfold upd
  rw [if_neg (by omega)]
theorem upd_next (bs : Nat → UInt8) (a m : Nat) (c : UInt8) : (fun i => if i = a + m then c else upd bs a m c i) = upd bs a (m + 1) c := by
  funext i
  unfold upd
  by_cases h : i = a + m
  · rw [if_pos h, if_pos (by omega)]
  · rw [if_neg h]
    by_cases h2 : a ≤ i ∧ i < a + m
    · rw [if_pos h2, if_pos (by omega)]
    · rw [if_neg h2, if_neg (by omega)]
theorem cut_from (bs : Nat → UInt8) (A : Nat) (hA : A + 4 ≤ 80) (c : UInt8) : ∀ (f k L : Nat), k + f = 4 →
    writeFrom (repS 512 c) A k f ⟨secsOf (upd bs A k c), L, false⟩ = if f ≤ L then (⟨secsOf (upd bs A (k + f) c), ((L - f : Nat) : Int), false⟩, 0) else (⟨secsOf (upd bs A (k + L) c), 0, true⟩, 20)
  | 0, k, L, _ => by rw [if_pos (Nat.zero_le _)]; rfl
  | f + 1, k, L, h => by
    have hz : (repS 128 c).size = 128 := repS_size _ _
    rw [writeFrom, sec_rep _ _ (by omega)]
    by_cases hL : L = 0
    · subst hL
      have e : writeD ⟨secsOf (upd bs A k c), ((0 : Nat) : Int), false⟩ (A + (k : Int)) (repS 128 c) = (⟨secsOf (upd bs A k c), 0, true⟩, 20) := by
        unfold writeD
        rw [if_neg (by simp), if_neg (by simp only [secsOf_len]; omega), if_pos (by simp)]
        rfl
      rw [e, if_pos (by simp), if_neg (by omega)]
      rfl
    · have e : writeD ⟨secsOf (upd bs A k c), (L : Int), false⟩ (A + (k : Int)) (repS 128 c) = (⟨secsOf (upd bs A (k + 1) c), ((L - 1 : Nat) : Int), false⟩, 0) := by
        unfold writeD
        rw [if_neg (by simp), if_neg (by simp only [secsOf_len]; omega), if_neg (by simp only; omega)]
        simp only
        rw [if_pos (by omega), show ((A : Int) + (k : Int)).toNat = A + k from by omega, secsOf_set, upd_next, show ((L : Int) - 1) = ((L - 1 : Nat) : Int) from by omega]
      rw [e, if_neg (by simp)]
      simp only
      rw [cut_from bs A hA c f (k + 1) (L - 1) (by omega)]
      by_cases h1 : f + 1 ≤ L
      · rw [if_pos h1, if_pos (by omega), show k + 1 + f = k + (f + 1) from by omega, show L - 1 - f = L - (f + 1) from by omega]
      · rw [if_neg h1, if_neg (by omega), show k + 1 + (L - 1) = k + L from by omega]
theorem cut_write (bs : Nat → UInt8) (A L : Nat) (hA : A + 4 ≤ 80) (c : UInt8) :
    writeP ⟨secsOf bs, L, false⟩ A (repS 512 c) = if 4 ≤ L then (⟨secsOf (upd bs A 4 c), ((L - 4 : Nat) : Int), false⟩, 0) else (⟨secsOf (upd bs A L c), 0, true⟩, 20) := by
  have h := cut_from bs A hA c 4 0 L rfl
  rw [upd_zero, Nat.zero_add, Nat.zero_add] at h
  unfold writeP
  rw [if_neg (by simp), if_neg (by simp only [repS_size, secsOf_len]; omega)]
  exact h
theorem cut_new : newD 80 = (⟨secsOf (fun _ => 0), -1, false⟩, 0) := by
  have : List.replicate 80 zeroS = secsOf (fun _ => 0) := by
    apply List.ext_getElem?
    intro i
    by_cases h : i < 80
    · rw [secsOf_at _ h, List.getElem?_replicate, if_pos h]; rfl
    · rw [List.getElem?_eq_none (by simp; omega), List.getElem?_eq_none (by rw [secsOf_len]; omega)]
  rw [← this]
  rfl
theorem cut_arm (s : List ByteArray) (x : Int) (n : Nat) : armD ⟨s, x, false⟩ n = ⟨s, n, false⟩ := by
  unfold armD
  rw [if_neg (by omega)]
theorem cut_read (bs : Nat → UInt8) (j : Nat) (h : j < 80) : readD ⟨secsOf bs, -1, false⟩ j = (repS 128 (bs j), 0) := by
  rw [readD, if_neg (by simp), if_neg (by simp only [secsOf_len]; omega)]
  simp only
  rw [List.getD_eq_getElem?_getD, show ((j : Nat) : Int).toNat = j from by omega, secsOf_at _ h]
  rfl
theorem rep_at (N : Nat) (c : UInt8) (i : Nat) (h : i < (repS N c).size) : (repS N c)[i] = c := by
  show (List.replicate N c).toArray[i]'h = c
  simp
/-- Where the k-th page goes. -/
theorem cut_at (x : Int) : ∃ A : Nat, A + 4 ≤ 80 ∧ IntKind.i64.wrap (x.tmod 20 + 20) = x.tmod 20 + 20 ∧ IntKind.i64.wrap ((x.tmod 20 + 20).tmod 20 * 4) = (A : Int) := by
  have h1 : -20 < x.tmod 20 := Int.lt_tmod_of_pos x (by omega)
  have h2 : x.tmod 20 < 20 := Int.tmod_lt_of_pos x (by omega)
  have h3 : (x.tmod 20 + 20).tmod 20 = (x.tmod 20 + 20) % 20 := Int.tmod_eq_emod_of_nonneg (by omega)
  refine ⟨((x.tmod 20 + 20) % 20 * 4).toNat, by omega, IntWalk.i64_in _ (by omega), ?_⟩
  rw [h3, IntWalk.i64_in _ (by omega)]
  omega
end Go.Proofs.Ytdfpmjfnlcccaaa

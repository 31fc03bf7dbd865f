/- Versions' bytes: mathematics. -/
import Derived.Test.YtebamnlknaoehaaOctV
namespace Go.Proofs.Ytebamnlknaoehaa
set_option linter.unusedVariables false
open Go.ChangeShapes Go.WideShapes Go.ChangeAt Go.RowKit

def fitN (n : Int) : Bool := decide (0 ≤ n) && decide (n ≤ 281474976710655)
def six (n : Int) : List UInt8 := (putL n 6).map byteOf
def headG (a b c : Int) : List UInt8 := six a ++ six b ++ six c
def fit3 (a b c : Int) : Bool := fitN a && fitN b && fitN c
def putVG (a b c : Int) (r : List ValV) : Int × List UInt8 :=
  if fit3 a b c then (if (putG r).1 = 0 then (if 400 < 18 + (putG r).2.length then (4, []) else (0, headG a b c ++ (putG r).2)) else ((putG r).1, [])) else (1, [])
def numG (l : List UInt8) (k : Nat) : Int := foldB ((l.drop k).take 6)
structure VerG where
  err : Int
  row : Int
  frm : Int
  too : Int
  data : List ValV
def getVG (l : List UInt8) : VerG :=
  if 400 < l.length then ⟨4, 0, 0, 0, []⟩ else if l.length < 18 then ⟨3, 0, 0, 0, []⟩ else
    if (getG (l.drop 18)).1 = 0 then ⟨0, numG l 0, numG l 6, numG l 12, (getG (l.drop 18)).2⟩ else ⟨(getG (l.drop 18)).1, 0, 0, 0, []⟩
theorem six_len (n : Int) : (six n).length = 6 := by rw [six, List.length_map, putL_len]
theorem six_str (n : Int) : strOfNums (putL n 6) = strL (six n) := rfl
theorem head_len (a b c : Int) : (headG a b c).length = 18 := by unfold headG; rw [List.length_append, List.length_append, six_len, six_len, six_len]
theorem fit_iff {n : Int} : fitN n = true ↔ 0 ≤ n ∧ n ≤ 281474976710655 := by unfold fitN; simp
theorem num_six (n : Int) (h : fitN n = true) : foldB (six n) = n := by
  have := fit_iff.1 h
  unfold six
  rw [foldB_put]
  have h3 : (256 : Int) ^ 6 = 281474976710656 := by decide
  rw [h3]
  omega
theorem six_num (l : List UInt8) (h : l.length = 6) : six (foldB l) = l := put_foldB 6 l h
theorem num_fit (l : List UInt8) (h : l.length = 6) : fitN (foldB l) = true := by
  have := foldB_range 6 l h
  have h3 : (256 : Int) ^ 6 = 281474976710656 := by decide
  rw [h3] at this
  exact fit_iff.2 (by omega)
theorem head_get (a b c : Int) (m : List UInt8) (ha : fitN a = true) (hb : fitN b = true) (hc : fitN c = true) : numG (headG a b c ++ m) 0 = a ∧ numG (headG a b c ++ m) 6 = b ∧ numG (headG a b c ++ m) 12 = c ∧ (headG a b c ++ m).drop 18 = m := by
  have l1 := six_len a
  have l2 := six_len b
  have l3 := six_len c
  have lh := head_len a b c
  refine ⟨?_, ?_, ?_, ?_⟩
  · unfold numG headG
    rw [List.drop_zero, List.append_assoc, List.append_assoc, ← l1, List.take_left, num_six a ha]
  · unfold numG headG
    rw [List.append_assoc, List.append_assoc]
    have : (six a ++ (six b ++ (six c ++ m))).drop 6 = six b ++ (six c ++ m) := by rw [← l1, List.drop_left]
    rw [this, ← l2, List.take_left, num_six b hb]
  · unfold numG headG
    rw [List.append_assoc]
    have : (six a ++ six b ++ (six c ++ m)).drop 12 = six c ++ m := by
      have : (six a ++ six b).length = 12 := by rw [List.length_append, l1, l2]
      rw [← this, List.drop_left]
    rw [this, ← l3, List.take_left, num_six c hc]
  · rw [← lh, List.drop_left]
theorem head_back (l : List UInt8) (h : 18 ≤ l.length) : l = headG (numG l 0) (numG l 6) (numG l 12) ++ l.drop 18 := by
  unfold headG numG
  rw [six_num _ (by rw [List.length_take, List.length_drop]; omega), six_num _ (by rw [List.length_take, List.length_drop]; omega), six_num _ (by rw [List.length_take, List.length_drop]; omega)]
  have e1 : l.drop 12 = (l.drop 12).take 6 ++ l.drop 18 := by
    conv => lhs; rw [← List.take_append_drop 6 (l.drop 12), List.drop_drop]
  have e2 : l.drop 6 = (l.drop 6).take 6 ++ l.drop 12 := by
    conv => lhs; rw [← List.take_append_drop 6 (l.drop 6), List.drop_drop]
  have e3 : l = (l.drop 0).take 6 ++ l.drop 6 := by
    conv => lhs; rw [← List.take_append_drop 6 l]
    rw [List.drop_zero]
  conv => lhs; rw [e3, e2, e1]
  simp only [List.append_assoc]
/-- A version that has bytes. -/
structure OkVer (a b c : Int) (r : List ValV) : Prop where
  fits : fit3 a b c = true
  row : OkR r
  size : 18 + (bytesR r).length ≤ 400
theorem fit3_iff {a b c : Int} : fit3 a b c = true ↔ fitN a = true ∧ fitN b = true ∧ fitN c = true := by unfold fit3; rw [Bool.and_eq_true, Bool.and_eq_true, and_assoc]
theorem putVG_cases (a b c : Int) (r : List ValV) : (OkVer a b c r ∧ putVG a b c r = (0, headG a b c ++ bytesR r)) ∨ (¬ OkVer a b c r ∧ (putVG a b c r).1 ≠ 0 ∧ (putVG a b c r).2 = []) := by
  unfold putVG
  cases hf : fit3 a b c
  · right
    refine ⟨fun h => ?_, ?_, ?_⟩
    · have := h.fits; rw [hf] at this; cases this
    · rw [if_neg (by simp)]; decide
    · rw [if_neg (by simp)]
  · rw [if_pos rfl]
    rcases putG_cases r with ⟨ho, hp⟩ | ⟨h2, hp⟩ | ⟨_, hno, hp⟩
    · rw [hp]
      simp only [if_true]
      by_cases h : 400 < 18 + (bytesR r).length
      · right
        rw [if_pos h]
        exact ⟨fun hh => by have := hh.size; omega, by decide, rfl⟩
      · left
        rw [if_neg h]
        exact ⟨⟨hf, ho, by omega⟩, rfl⟩
    · right
      rw [hp, if_neg (by decide)]
      exact ⟨fun hh => absurd hh.row.right (by rw [h2]; decide), by decide, rfl⟩
    · right
      rw [hp, if_neg (by decide)]
      exact ⟨fun hh => hno hh.row, by decide, rfl⟩
theorem getV_put {a b c : Int} {r : List ValV} (h : OkVer a b c r) : getVG (headG a b c ++ bytesR r) = ⟨0, a, b, c, r⟩ := by
  obtain ⟨ha, hb, hc⟩ := fit3_iff.1 h.fits
  obtain ⟨g1, g2, g3, g4⟩ := head_get a b c (bytesR r) ha hb hc
  have hl := head_len a b c
  have hs := h.size
  unfold getVG
  rw [if_neg (by rw [List.length_append]; omega), if_neg (by rw [List.length_append]; omega), g4, get_put h.row, g1, g2, g3]
  rfl
theorem getV_back {l : List UInt8} {a b c : Int} {r : List ValV} (h : getVG l = ⟨0, a, b, c, r⟩) : OkVer a b c r ∧ l = headG a b c ++ bytesR r := by
  unfold getVG at h
  split at h
  · injection h with h _; omega
  · rename_i h4
    split at h
    · injection h with h _; omega
    · rename_i h18
      split at h
      · rename_i h0
        injection h with _ h1 h2 h3 h5
        have hg : getG (l.drop 18) = (0, r) := by rw [← h5, ← h0]
        obtain ⟨ho, hd⟩ := get_back hg
        have hb := head_back l (by omega)
        rw [h1, h2, h3, hd] at hb
        have hl := congrArg List.length hd
        rw [List.length_drop] at hl
        refine ⟨⟨fit3_iff.2 ⟨?_, ?_, ?_⟩, ho, by omega⟩, hb⟩
        · rw [← h1]; exact num_fit _ (by rw [List.length_take, List.length_drop]; omega)
        · rw [← h2]; exact num_fit _ (by rw [List.length_take, List.length_drop]; omega)
        · rw [← h3]; exact num_fit _ (by rw [List.length_take, List.length_drop]; omega)
      · rename_i h0
        injection h with h _
        exact absurd h h0
theorem getV_err (l : List UInt8) : (getVG l).err = 0 ∨ ((getVG l).err ≠ 0 ∧ getVG l = ⟨(getVG l).err, 0, 0, 0, []⟩) := by
  unfold getVG
  split
  · exact .inr ⟨by decide, rfl⟩
  · split
    · exact .inr ⟨by decide, rfl⟩
    · split
      · exact .inl rfl
      · rename_i h; exact .inr ⟨h, rfl⟩
theorem ver_inj {a b c a2 b2 c2 : Int} {r r2 : List ValV} (h : OkVer a b c r) (h2 : OkVer a2 b2 c2 r2) : headG a b c ++ bytesR r = headG a2 b2 c2 ++ bytesR r2 ↔ a = a2 ∧ b = b2 ∧ c = c2 ∧ r = r2 := by
  constructor
  · intro e
    have h1 := getV_put h
    rw [e, getV_put h2] at h1
    injection h1 with _ e1 e2 e3 e4
    exact ⟨e1.symm, e2.symm, e3.symm, e4.symm⟩
  · rintro ⟨rfl, rfl, rfl, rfl⟩; rfl
/-- Which snapshots see a version. -/
def seenG (f t snap : Int) : Bool := decide (f ≤ snap) && (decide (t = 0) || decide (t > snap))
def oldG (t o : Int) : Bool := decide (t > 0) && decide (t ≤ o)
end Go.Proofs.Ytebamnlknaoehaa

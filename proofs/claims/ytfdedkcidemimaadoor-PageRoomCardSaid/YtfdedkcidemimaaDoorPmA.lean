/- Pages: bytes at places. No walk. -/
import Derived.Test.YtfdedkcidemimaaDoorPgZ
namespace Go.Proofs.YtfdedkcidemimaaDoor
set_option linter.unusedVariables false
open Go.ChangeShapes Go.WideShapes Go.ChangeAt Go.RowKit

theorem bl_app (a b : ByteArray) : (a ++ b).data.toList = a.data.toList ++ b.data.toList := by simp
theorem bl_len (a : ByteArray) : a.data.toList.length = a.size := str_len a
theorem bl_ext {a b : ByteArray} (h : a.data.toList = b.data.toList) : a = b := by
  apply ByteArray.ext
  exact Array.ext' h
theorem bl_cut (p : ByteArray) (a b : Nat) : (p.extract a b).data.toList = (p.data.toList.drop a).take (b - a) := by
  rw [ByteArray.data_extract, Array.toList_extract]
theorem bl_bytesOf (l : List UInt8) : (bytesOf l).data.toList = l := by simp [bytesOf]
theorem bl_zrs (k : Nat) : (zrs k).data.toList = List.replicate k 0 := by simp [zrs]
theorem toList_bl (a : ByteArray) : a.toList = a.data.toList := ByteArray.toList_eq ..
theorem byteAt_getD (s : ByteArray) (i : Nat) : byteAt s i = s.data.toList.getD i 0 := by
  unfold byteAt
  rw [List.getD_eq_getElem?_getD]
  by_cases h : i < s.size
  · rw [dif_pos h, List.getElem?_eq_getElem (by rw [bl_len]; exact h)]
    rfl
  · rw [dif_neg h, List.getElem?_eq_none (by rw [bl_len]; omega)]
    rfl
/-- A piece of a list. -/
def sub (l : List UInt8) (a n : Nat) : List UInt8 := (l.drop a).take n
theorem sub_len {l : List UInt8} {a n : Nat} (h : a + n ≤ l.length) : (sub l a n).length = n := by
  unfold sub
  rw [List.length_take, List.length_drop]
  omega
theorem sub_add (l : List UInt8) (a m n : Nat) : sub l a (m + n) = sub l a m ++ sub l (a + m) n := by
  unfold sub
  rw [List.take_add, List.drop_drop]
theorem sub_one {l : List UInt8} {a : Nat} (h : a < l.length) : sub l a 1 = [l.getD a 0] := by
  unfold sub
  rw [List.drop_eq_getElem_cons h, List.getD_eq_getElem?_getD, List.getElem?_eq_getElem h]
  rfl
theorem sub_two {l : List UInt8} {a : Nat} (h : a + 1 < l.length) : sub l a 2 = [l.getD a 0, l.getD (a + 1) 0] := by
  rw [show (2 : Nat) = 1 + 1 from rfl, sub_add, sub_one (by omega), sub_one h]
  rfl
theorem sub_four {l : List UInt8} {a : Nat} (h : a + 3 < l.length) : sub l a 4 = [l.getD a 0, l.getD (a + 1) 0, l.getD (a + 2) 0, l.getD (a + 3) 0] := by
  rw [show (4 : Nat) = 2 + 2 from rfl, sub_add, sub_two (by omega), sub_two (by omega)]
  rfl
theorem sub_getD {l : List UInt8} {a n i : Nat} (h : i < n) : (sub l a n).getD i 0 = l.getD (a + i) 0 := by
  unfold sub
  rw [List.getD_eq_getElem?_getD, List.getD_eq_getElem?_getD, List.getElem?_take, if_pos h, List.getElem?_drop]
theorem sub_at {x y z : List UInt8} {a n : Nat} (hx : x.length = a) (hy : y.length = n) : sub (x ++ y ++ z) a n = y := by
  unfold sub
  rw [List.append_assoc, List.drop_append_of_le_length (by omega), List.drop_of_length_le (by omega), List.nil_append, List.take_append_of_le_length (by omega), List.take_of_length_le (by omega)]
theorem drop_sub (l : List UInt8) (a n : Nat) : l.drop a = sub l a n ++ l.drop (a + n) := by
  unfold sub
  rw [← List.drop_drop, List.take_append_drop]
/-- The number in some bytes. -/
def be (l : List UInt8) : Int := l.foldl (fun (z : Int) (c : UInt8) => z * 256 + (c.toNat : Int)) 0
theorem be_snoc (l : List UInt8) (c : UInt8) : be (l ++ [c]) = be l * 256 + (c.toNat : Int) := by
  unfold be
  rw [List.foldl_append]
  rfl
theorem be_in : ∀ (k : Nat) (l : List UInt8), l.length = k → 0 ≤ be l ∧ be l < 256 ^ k
  | 0, l, h => by
    obtain rfl := List.eq_nil_of_length_eq_zero h
    exact ⟨Int.le_refl _, by decide⟩
  | k + 1, l, h => by
    obtain ⟨l', c, rfl⟩ : ∃ l' c, l = l' ++ [c] := ⟨l.dropLast, l.getLast (by intro e; rw [e] at h; cases h), (List.dropLast_concat_getLast _).symm⟩
    have hl : l'.length = k := by simpa using h
    obtain ⟨h0, h1⟩ := be_in k l' hl
    have hc := c.toNat_lt
    rw [be_snoc, Int.pow_succ]
    omega
theorem putL_be : ∀ (k : Nat) (l : List UInt8), l.length = k → (putL (be l) k).map byteOf = l
  | 0, l, h => by
    obtain rfl := List.eq_nil_of_length_eq_zero h
    rfl
  | k + 1, l, h => by
    obtain ⟨l', c, rfl⟩ : ∃ l' c, l = l' ++ [c] := ⟨l.dropLast, l.getLast (by intro e; rw [e] at h; cases h), (List.dropLast_concat_getLast _).symm⟩
    have hl : l'.length = k := by simpa using h
    have hc := c.toNat_lt
    obtain ⟨h0, h1⟩ := be_in k l' hl
    rw [be_snoc, putL, List.map_append, show (be l' * 256 + (c.toNat : Int)) / 256 = be l' by omega, putL_be k l' hl]
    have e : byteOf ((be l' * 256 + (c.toNat : Int)) % 256) = c := by
      unfold byteOf
      rw [show ((be l' * 256 + (c.toNat : Int)) % 256).toNat = c.toNat by omega]
      exact UInt8.ofNat_toNat
    simp only [List.map_cons, List.map_nil, e]
theorem be_putL : ∀ (k : Nat) (n : Int), be ((putL n k).map byteOf) = n % 256 ^ k
  | 0, n => by simp [putL, be, Int.emod_one]
  | k + 1, n => by
    have hp : (0 : Int) < 256 ^ k := Int.pow_pos (by omega)
    rw [putL, List.map_append, List.map_cons, List.map_nil, be_snoc, be_putL k (n / 256)]
    have hb : ((byteOf (n % 256)).toNat : Int) = n % 256 := by
      unfold byteOf
      simp only [UInt8.toNat_ofNat']
      omega
    rw [hb, mod_step n _ hp, Int.pow_succ, Int.mul_comm]
theorem numU_be (s : ByteArray) (a : Nat) : ∀ k : Nat, k ≤ 7 → a + k ≤ s.size → numU s a k = be (sub s.data.toList a k)
  | 0, _, _ => rfl
  | k + 1, h, hs => by
    have ih := numU_be s a k (by omega) (by omega)
    have hl : (sub s.data.toList a k).length = k := sub_len (by rw [bl_len]; omega)
    obtain ⟨h0, h1⟩ := be_in k _ hl
    have h3 := pow_le k (by omega)
    rw [numU, ih, stepU_add _ _ h0 (by omega), sub_add, sub_one (by rw [bl_len]; omega), be_snoc, ← byteAt_getD, show ((a : Int) + (k : Int)).toNat = a + k by omega]
theorem getP_be {s : ByteArray} {a k : Nat} (h1 : 1 ≤ k) (h : k ≤ 7) (hs : a + k ≤ s.size) : getP s a k = (be (sub s.data.toList a k), true) := by
  have hl : (sub s.data.toList a k).length = k := sub_len (by rw [bl_len]; omega)
  obtain ⟨h0, h2⟩ := be_in k _ hl
  have h3 := pow_le k h
  unfold getP
  rw [if_pos (by omega), Int.toNat_natCast, numU_be s a k h hs]
  generalize be (sub s.data.toList a k) = x at *
  rw [show wrap64 x = x by rw [wrap64]; omega]
theorem bN_getD (p : ByteArray) (i : Nat) : bN p i = (p.data.toList.getD i 0).toNat := by unfold bN; rw [byteAt_getD]
theorem bN_be {p : ByteArray} {i : Nat} (h : i < p.size) : be (sub p.data.toList i 1) = bN p i := by
  rw [sub_one (by rw [bl_len]; exact h), bN_getD]
  unfold be
  simp
theorem shN_be {p : ByteArray} {i : Nat} (h : i + 1 < p.size) : be (sub p.data.toList i 2) = shN p i := by
  rw [sub_two (by rw [bl_len]; exact h)]
  unfold shN
  rw [bN_getD, bN_getD]
  unfold be
  simp
theorem strOf_be {k : Nat} {l : List UInt8} (h : l.length = k) : (strOfNums (putL (be l) k)).data.toList = l := by rw [strOf_list, putL_be k l h]
theorem put_sh {p : ByteArray} {i : Nat} (h : i + 1 < p.size) : (strOfNums (putL (shN p i) 2)).data.toList = sub p.data.toList i 2 := by
  rw [← shN_be h, strOf_be (sub_len (by rw [bl_len]; omega))]
theorem hi_lo {x : Nat} (h : x < 65536) : (strOfNums (putL x 2)).data.toList = [hiB x, loB x] := by
  rw [strOf_list]
  simp only [putL, List.nil_append, List.cons_append, List.map_cons, List.map_nil]
  unfold byteOf hiB loB
  have e1 : ((x : Int) / 256 % 256).toNat = x / 256 := by omega
  have e2 : UInt8.ofNat ((x : Int) % 256).toNat = UInt8.ofNat x := by
    apply UInt8.toNat_inj.1
    rw [UInt8.toNat_ofNat', UInt8.toNat_ofNat']
    omega
  rw [e1, e2]
theorem hl_sh {p : ByteArray} {i : Nat} (h : i + 1 < p.size) : [hiB (shN p i), loB (shN p i)] = sub p.data.toList i 2 := by rw [← hi_lo (shN_lt p i), put_sh h]
theorem bytes_sh (a b : UInt8) : a.toNat * 256 + b.toNat < 65536 := by have := a.toNat_lt; have := b.toNat_lt; omega
theorem sh_hl {x : Nat} (h : x < 65536) : (hiB x).toNat * 256 + (loB x).toNat = x := by
  unfold hiB loB
  rw [UInt8.toNat_ofNat', UInt8.toNat_ofNat']
  omega
end Go.Proofs.YtfdedkcidemimaaDoor

/- Disks: what each call does to a disk, as plain functions. No walk. -/
import Derived.Test.YtdfpmjfnlcccaaaSl
namespace Go.Proofs.Ytdfpmjfnlcccaaa
set_option linter.unusedVariables false
open Go.ChangeShapes Go.WideShapes Go.ChangeAt Go.RowKit

theorem str_len (s : ByteArray) : s.data.toList.length = s.size := by show s.data.toList.length = s.data.size; simp
structure DiskV where
  secs : List ByteArray
  left : Int
  down : Bool
def zeroS : ByteArray := ⟨(List.replicate 128 0).toArray⟩
theorem zeroS_size : zeroS.size = 128 := by show (List.replicate 128 (0 : UInt8)).toArray.size = 128; simp
def newD (n : Int) : DiskV × Int := if n < 1 ∨ 65536 < n then (⟨[], 0, false⟩, 1) else (⟨List.replicate n.toNat zeroS, -1, false⟩, 0)
def readD (d : DiskV) (at' : Int) : ByteArray × Int := if d.down = true then (.empty, 20) else if at' < 0 ∨ (d.secs.length : Int) ≤ at' then (.empty, 1) else (d.secs.getD at'.toNat .empty, 0)
def writeD (d : DiskV) (at' : Int) (b : ByteArray) : DiskV × Int :=
  if d.down = true then (d, 20) else if at' < 0 ∨ (d.secs.length : Int) ≤ at' ∨ b.size ≠ 128 then (d, 1) else if d.left = 0 then (⟨d.secs, d.left, true⟩, 20)
  else (⟨d.secs.set at'.toNat b, if 0 < d.left then d.left - 1 else d.left, false⟩, 0)
/-- The sectors from one on, one behind the other. -/
def catS : List ByteArray → ByteArray
  | [] => .empty
  | s :: l => s ++ catS l
def pageAt (l : List ByteArray) (a k : Nat) : ByteArray := ((l.drop a).take k).foldl (· ++ ·) .empty
theorem pageAt_snoc {l : List ByteArray} {a k : Nat} {s : ByteArray} (h : l[a + k]? = some s) : pageAt l a (k + 1) = pageAt l a k ++ s := by
  unfold pageAt
  rw [take_at (show (l.drop a)[k]? = some s by rw [List.getElem?_drop]; exact h), List.foldl_append]
  rfl
def readP (d : DiskV) (at' : Int) : ByteArray × Int := if d.down = true then (.empty, 20) else if at' < 0 ∨ (d.secs.length : Int) < at' + 4 then (.empty, 1) else (pageAt d.secs at'.toNat 4, 0)
/-- A page's sector. -/
def secOf (p : ByteArray) (k : Nat) : ByteArray := p.extract (k * 128) ((k + 1) * 128)
theorem secOf_size (p : ByteArray) (h : p.size = 512) (k : Nat) (hk : k < 4) : (secOf p k).size = 128 := by
  unfold secOf
  rw [ByteArray.size_extract]
  omega
/-- From the k-th sector on. -/
def writeFrom (p : ByteArray) (at' : Int) : Nat → Nat → DiskV → DiskV × Int
  | _, 0, d => (d, 0)
  | k, f + 1, d => if (writeD d (at' + k) (secOf p k)).2 ≠ 0 then writeD d (at' + k) (secOf p k) else writeFrom p at' (k + 1) f (writeD d (at' + k) (secOf p k)).1
def writeP (d : DiskV) (at' : Int) (p : ByteArray) : DiskV × Int :=
  if d.down = true then (d, 20) else if p.size ≠ 512 ∨ at' < 0 ∨ (d.secs.length : Int) - 4 < at' then (d, 1) else writeFrom p at' 0 4 d
def armD (d : DiskV) (n : Int) : DiskV := ⟨d.secs, if n < 0 then -1 else n, d.down⟩
def startD (d : DiskV) : DiskV := ⟨d.secs, -1, false⟩
theorem writeD_len (d : DiskV) (a : Int) (b : ByteArray) : (writeD d a b).1.secs.length = d.secs.length := by
  unfold writeD
  split
  · rfl
  · split
    · rfl
    · split
      · rfl
      · simp
/-- A write's cases. -/
theorem writeD_cases (d : DiskV) (at' : Int) (b : ByteArray) : (d.down = true ∧ writeD d at' b = (d, 20)) ∨ (d.down = false ∧ (at' < 0 ∨ (d.secs.length : Int) ≤ at' ∨ b.size ≠ 128) ∧ writeD d at' b = (d, 1)) ∨
    (d.down = false ∧ 0 ≤ at' ∧ at' < d.secs.length ∧ b.size = 128 ∧ d.left = 0 ∧ writeD d at' b = (⟨d.secs, d.left, true⟩, 20)) ∨
    (d.down = false ∧ 0 ≤ at' ∧ at' < d.secs.length ∧ b.size = 128 ∧ 0 < d.left ∧ writeD d at' b = (⟨d.secs.set at'.toNat b, d.left - 1, false⟩, 0)) ∨
    (d.down = false ∧ 0 ≤ at' ∧ at' < d.secs.length ∧ b.size = 128 ∧ d.left < 0 ∧ writeD d at' b = (⟨d.secs.set at'.toNat b, d.left, false⟩, 0)) := by
  unfold writeD
  cases hd : d.down with
  | true => left; exact ⟨rfl, by rw [if_pos rfl]⟩
  | false =>
    right
    rw [if_neg (by simp)]
    by_cases h1 : at' < 0 ∨ (d.secs.length : Int) ≤ at' ∨ b.size ≠ 128
    · left; exact ⟨rfl, h1, by rw [if_pos h1]⟩
    · right
      rw [if_neg h1]
      have h2 : 0 ≤ at' := by omega
      have h3 : at' < d.secs.length := by omega
      have h4 : b.size = 128 := by omega
      by_cases h5 : d.left = 0
      · left; exact ⟨rfl, h2, h3, h4, h5, by rw [if_pos h5]⟩
      · right
        rw [if_neg h5]
        by_cases h6 : 0 < d.left
        · left; exact ⟨rfl, h2, h3, h4, h6, by rw [if_pos h6]⟩
        · right; exact ⟨rfl, h2, h3, h4, by omega, by rw [if_neg h6]⟩
end Go.Proofs.Ytdfpmjfnlcccaaa

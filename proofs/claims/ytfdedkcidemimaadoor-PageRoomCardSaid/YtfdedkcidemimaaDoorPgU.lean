/- Pages: what a content's bytes are; the rows of bytes that build them. -/
import Derived.Test.YtfdedkcidemimaaDoorPgT
import Derived.Lib.BufferWrite
namespace Go.Proofs.YtfdedkcidemimaaDoor
set_option linter.unusedVariables false
open Go.ChangeShapes Go.WideShapes Go.ChangeAt Go.RowKit

def hiB (x : Nat) : UInt8 := UInt8.ofNat (x / 256)
def loB (x : Nat) : UInt8 := UInt8.ofNat x
/-- Where the records begin, the slots' bytes, the records' bytes. -/
structure LayV where
  at' : Nat
  slots : List UInt8
  recs : List UInt8
def layS (s : LayV) (r : ByteArray) : LayV := if r.size = 0 then ⟨s.at', s.slots ++ [0, 0, 0, 0], s.recs⟩ else ⟨s.at' - r.size, s.slots ++ [hiB (s.at' - r.size), loB (s.at' - r.size), hiB r.size, loB r.size], r.data.toList ++ s.recs⟩
def layF (l : List ByteArray) : LayV := l.foldl layS ⟨512, [], []⟩
theorem layF_next {l : List ByteArray} {k : Nat} {r : ByteArray} (h : l[k]? = some r) : layF (l.take (k + 1)) = layS (layF (l.take k)) r := by
  rw [take_at h]
  unfold layF
  rw [List.foldl_append]
  rfl
theorem sumS_append (a b : List ByteArray) : sumS (a ++ b) = sumS a + sumS b := by
  induction a with
  | nil => simp [sumS]
  | cons x a ih => simp only [List.cons_append, sumS, ih]; omega
theorem sumS_take (l : List ByteArray) (k : Nat) : sumS (l.take k) ≤ sumS l := by
  have := sumS_append (l.take k) (l.drop k)
  rw [List.take_append_drop] at this
  omega
/-- So far: what the fold keeps. -/
structure LayOk (l : List ByteArray) (s : LayV) : Prop where
  at' : s.at' + sumS l = 512
  slots : s.slots.length = 4 * l.length
  recs : s.recs.length = sumS l
theorem layF_ok (l : List ByteArray) : ∀ k, k ≤ l.length → sumS l ≤ 512 → LayOk (l.take k) (layF (l.take k))
  | 0, _, _ => ⟨rfl, rfl, rfl⟩
  | k + 1, hk, hs => by
    have ih := layF_ok l k (by omega) hs
    have hx : l[k]? = some l[k] := List.getElem?_eq_getElem (by omega)
    rw [layF_next hx]
    have ht := sumS_take l (k + 1)
    have e : l.take (k + 1) = l.take k ++ [l[k]] := take_at hx
    have hsum : sumS (l.take (k + 1)) = sumS (l.take k) + l[k].size := by rw [e, sumS_append]; simp [sumS]
    have hlen : (l.take (k + 1)).length = (l.take k).length + 1 := by rw [List.length_take, List.length_take]; omega
    obtain ⟨h1, h2, h3⟩ := ih
    unfold layS
    by_cases hz : l[k].size = 0
    · rw [if_pos hz]
      refine ⟨?_, ?_, ?_⟩
      · show (layF (l.take k)).at' + _ = 512
        omega
      · show ((layF (l.take k)).slots ++ [0, 0, 0, 0]).length = _
        rw [List.length_append, h2, hlen]
        simp
        omega
      · show (layF (l.take k)).recs.length = _
        omega
    · rw [if_neg hz]
      refine ⟨?_, ?_, ?_⟩
      · show (layF (l.take k)).at' - l[k].size + _ = 512
        omega
      · show ((layF (l.take k)).slots ++ [_, _, _, _]).length = _
        rw [List.length_append, h2, hlen]
        simp
        omega
      · show (l[k].data.toList ++ (layF (l.take k)).recs).length = _
        rw [List.length_append, h3, Array.length_toList]
        show l[k].size + _ = _
        omega
theorem u8_hi (x : Nat) (h : x < 65536) : IntKind.u8.wrap ((x / 256 : Nat) : Int) = ((hiB x).toNat : Int) := by
  unfold hiB
  rw [UInt8.toNat_ofNat']
  show ((x / 256 : Nat) : Int) % 256 = _
  omega
theorem u8_lo (x : Nat) : IntKind.u8.wrap (x : Int) = ((loB x).toNat : Int) := by
  unfold loB
  rw [UInt8.toNat_ofNat']
  show (x : Int) % 256 = _
  omega
/-- The page's bytes: the head, the slots, zeros, the records. -/
def bytesOf (l : List UInt8) : ByteArray := ⟨l.toArray⟩
def headL (c : CtV) (b : Nat) : ByteArray := ((((⟨#[0, 0, 0, 0]⟩ ++ strOfNums (putL c.lsn 6)) ++ ⟨#[UInt8.ofNat c.kind.toNat, 0]⟩) ++ strOfNums (putL c.link 3)) ++ strOfNums (putL c.recs.length 2)) ++ strOfNums (putL b 2)
def layL (c : CtV) : ByteArray := ((headL c (layF c.recs).at' ++ bytesOf (layF c.recs).slots) ++ zrs ((layF c.recs).at' - 19 - 4 * c.recs.length)) ++ bytesOf (layF c.recs).recs
theorem headL_size (c : CtV) (b : Nat) : (headL c b).size = 19 := by
  unfold headL
  simp only [app_size, strOf_size, putL_len]
  rfl
theorem bytesOf_size (l : List UInt8) : (bytesOf l).size = l.length := by
  show l.toArray.size = _
  simp
theorem layL_size (c : CtV) (h : sizeN c.recs ≤ 512) : (layL c).size = 512 := by
  unfold sizeN at h
  have ok := layF_ok c.recs c.recs.length (Nat.le_refl _) (by omega)
  rw [List.take_of_length_le (Nat.le_refl _)] at ok
  obtain ⟨h1, h2, h3⟩ := ok
  unfold layL
  rw [app_size, app_size, app_size, headL_size, bytesOf_size, bytesOf_size, zrs_size, h2, h3]
  omega
/-- The records without the empty ones at their end. -/
def trimL (l : List ByteArray) : List ByteArray := (l.reverse.dropWhile fun r => r.toList == []).reverse
/-- A row of bytes of the call's own; a whole row of bytes. -/
def OwnB (w : World) (B : Nat) (v : Value) (l : List UInt8) : Prop := w.ownsRow B 5 1 v l.length (Lib.byteCells l)
def RowB (w : World) (g : Nat) (l : List UInt8) : Prop := w.heap[g]? = some (.cells (Lib.byteCells l).toArray 5 (0, 0))
theorem RowB.lt {w : World} {g : Nat} {l : List UInt8} (h : RowB w g l) : g < w.heap.size := (Array.getElem?_eq_some_iff.1 h).1
theorem RowB.kept {w w' : World} {g : Nat} {l : List UInt8} (h : RowB w g l) (hb : Below w.heap.size w w') : RowB w' g l := (hb.block g h.lt).trans h
theorem RowB.grown {w w' : World} {g : Nat} {l : List UInt8} {row : Option Nat} (h : RowB w g l) (hb : w.grownBy w' row) (hg : some g ≠ row) : RowB w' g l := (hb.block g h.lt hg).trans h
theorem RowB.new (w : World) (l : List UInt8) : RowB (w.alloc (.cells (Lib.byteCells l).toArray 5)) w.heap.size l := heap_alloc_new w _
end Go.Proofs.YtfdedkcidemimaaDoor

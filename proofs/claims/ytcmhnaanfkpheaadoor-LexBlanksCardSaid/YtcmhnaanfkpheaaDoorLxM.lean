/- What tokens are: over lists of bytes. No walk. -/
import Derived.Test.YtcmhnaanfkpheaaDoorBytes
namespace Go.Proofs.YtcmhnaanfkpheaaDoor
set_option linter.unusedVariables false

def lowB (c : UInt8) : Bool := (decide (97 ≤ c.toNat) && decide (c.toNat ≤ 122)) || c == 95
def upB (c : UInt8) : Bool := decide (65 ≤ c.toNat) && decide (c.toNat ≤ 90)
def digB (c : UInt8) : Bool := decide (48 ≤ c.toNat) && decide (c.toNat ≤ 57)
def wordB (c : UInt8) : Bool := lowB c || upB c || digB c
def smallB (c : UInt8) : UInt8 := if upB c then c + 32 else c
def blankB (c : UInt8) : Bool := c == 32 || c == 9 || c == 10 || c == 13
/-- How many bytes are blank from the front: true: within a remark. -/
def skipS : Bool → List UInt8 → Nat
  | _, [] => 0
  | false, c :: l => if blankB c then skipS false l + 1 else if c == 45 && l.head? == some 45 then skipS true l + 1 else 0
  | true, c :: l => if c == 10 then skipS false l + 1 else skipS true l + 1
theorem skip_le : ∀ (b : Bool) (l : List UInt8), skipS b l ≤ l.length
  | b, [] => by cases b <;> exact Nat.zero_le _
  | false, c :: l => by
    rw [skipS, List.length_cons]
    have := skip_le false l
    have := skip_le true l
    split
    · omega
    · split <;> omega
  | true, c :: l => by
    rw [skipS, List.length_cons]
    have := skip_le false l
    have := skip_le true l
    split <;> omega
/-- How many bytes from the front are of a kind. -/
def runB (p : UInt8 → Bool) (l : List UInt8) : Nat := (l.takeWhile p).length
theorem run_cons {p : UInt8 → Bool} {c : UInt8} {l : List UInt8} (h : p c = true) : runB p (c :: l) = runB p l + 1 := by unfold runB; rw [List.takeWhile_cons, if_pos h]; rfl
theorem run_stop {p : UInt8 → Bool} {c : UInt8} {l : List UInt8} (h : p c = false) : runB p (c :: l) = 0 := by unfold runB; rw [List.takeWhile_cons, if_neg (by rw [h]; decide)]; rfl
theorem run_le (p : UInt8 → Bool) (l : List UInt8) : runB p l ≤ l.length := (List.takeWhile_sublist _).length_le
theorem run_at {p : UInt8 → Bool} : ∀ {l : List UInt8} {i : Nat} {c : UInt8}, i < runB p l → l[i]? = some c → p c = true
  | [], i, c, h, _ => absurd h (by unfold runB; simp)
  | d :: l, i, c, h, hc => by
    cases hd : p d with
    | false => rw [run_stop hd] at h; omega
    | true =>
      rw [run_cons hd] at h
      cases i with
      | zero => injection hc with hc; subst hc; exact hd
      | succ i => exact run_at (l := l) (i := i) (by omega) (by simpa using hc)
theorem run_end {p : UInt8 → Bool} : ∀ {l : List UInt8} {c : UInt8}, l[runB p l]? = some c → p c = false
  | [], c, h => by simp at h
  | d :: l, c, h => by
    cases hd : p d with
    | false => rw [run_stop hd] at h; injection h with h; subst h; exact hd
    | true => rw [run_cons hd] at h; exact run_end (l := l) (by simpa using h)
/-- A number's value, as far as it matters. -/
def numB8 (m : Nat) : List UInt8 → Nat
  | [] => m
  | c :: l => if digB c then numB8 (min (m * 10 + (c.toNat - 48)) 1000000000000001) l else m
/-- What one reads: a kind, how many bytes, a number, a text; or an error. -/
structure Tok where
  kind : Nat
  size : Nat
  num : Nat
  str : List UInt8
  err : Nat
def tokBad (e : Nat) : Tok := ⟨0, 0, 0, [], e⟩
/-- The words that are reserved. -/
def words8 : List String := ["all", "analyze", "and", "as", "asc", "begin", "between", "bool", "by", "case", "check", "checkpoint", "commit", "create", "cross", "delete", "desc", "distinct", "drop", "else", "end", "except", "exists", "explain", "false", "foreign", "from", "group", "having", "in", "index", "inner", "insert", "int", "intersect", "into", "is", "join", "key", "left", "like", "limit", "not", "null", "offset", "on", "or", "order", "primary", "references", "rollback", "select", "set", "table", "text", "then", "true", "union", "unique", "update", "vacuum", "values", "when", "where"]
def resB (w : List UInt8) : Bool := words8.any fun x => x.toUTF8.data.toList == w
def tokWord (l : List UInt8) : Tok :=
  let n := runB wordB l
  let w := (l.take n).map smallB
  if resB w then ⟨1, n, 0, w, 0⟩ else if 20 < n then tokBad 4 else ⟨2, n, 0, w, 0⟩
def tokNum (l : List UInt8) : Tok := if 1000000000000000 < numB8 0 l then tokBad 4 else ⟨3, runB digB l, numB8 0 l, [], 0⟩
/-- Is it a letter, and then letters and digits? -/
def formB : List UInt8 → Bool
  | [] => false
  | c :: l => lowB c && l.all fun x => lowB x || digB x
def tokName (l : List UInt8) : Tok :=
  let n := runB (fun c => c != 34) (l.drop 1)
  if l.length ≤ n + 1 then tokBad 3 else if !formB ((l.drop 1).take n) then tokBad 2 else if 20 < n then tokBad 4 else ⟨2, n + 2, 0, (l.drop 1).take n, 0⟩
/-- A text behind its first quote: how many bytes it takes, and its bytes; none: it does not end. -/
def textS : List UInt8 → Option (Nat × List UInt8)
  | [] => none
  | c :: l => if c == 39 then (match l with
    | d :: m => if d == 39 then (textS m).map (fun p => (p.1 + 2, 39 :: p.2)) else some (0, [])
    | [] => some (0, [])) else (textS l).map (fun p => (p.1 + 1, c :: p.2))
def tokText (l : List UInt8) : Tok :=
  match textS (l.drop 1) with
  | none => tokBad 3
  | some (n, t) => if !(t.all fun c => decide (32 ≤ c.toNat) && decide (c.toNat ≤ 126)) then tokBad 2 else if 100 < t.length then tokBad 4 else ⟨4, n + 2, 0, t, 0⟩
/-- How long a sign is; 0: none. -/
def signB : List UInt8 → Nat
  | [] => 0
  | c :: l => if c == 124 then (if l.head? == some 124 then 2 else 0)
    else if c == 60 then (if l.head? == some 62 || l.head? == some 61 then 2 else 1)
    else if c == 62 then (if l.head? == some 61 then 2 else 1)
    else if [40, 41, 44, 46, 59, 43, 45, 42, 47, 37, 61].contains c then 1 else 0
def tokSign (l : List UInt8) : Tok := if signB l == 0 then tokBad 2 else ⟨5, signB l, 0, l.take (signB l), 0⟩
def tokL : List UInt8 → Tok
  | [] => tokBad 2
  | c :: l => if lowB c || upB c then tokWord (c :: l) else if digB c then tokNum (c :: l) else if c == 34 then tokName (c :: l) else if c == 39 then tokText (c :: l) else tokSign (c :: l)
end Go.Proofs.YtcmhnaanfkpheaaDoor

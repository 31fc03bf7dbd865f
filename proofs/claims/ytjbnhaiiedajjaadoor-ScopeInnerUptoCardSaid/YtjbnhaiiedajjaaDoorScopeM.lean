/- What names mean: the columns, the places. No walk. -/
import Derived.Test.YtjbnhaiiedajjaaDoorRecs
namespace Go.Proofs.YtjbnhaiiedajjaaDoor
set_option linter.unusedVariables false
open Go.ChangeShapes Go.WideShapes Go.ChangeAt Go.RowKit

/-- A column. -/
structure ColV where
  tab : ByteArray
  nam : ByteArray
  typ : Int
def colCells (c : ColV) : List Value := [.string c.tab, .string c.nam, .int .i64 c.typ]
/-- Does a name mean a column? -/
def meansB (t n : ByteArray) (c : ColV) : Bool := (c.nam.toList == n.toList) && (t.toList.isEmpty || (c.tab.toList == t.toList))
/-- The places from i on at which p holds. -/
def placesF {α : Type} (p : α → Bool) : Nat → List α → List Nat
  | _, [] => []
  | i, c :: l => if p c then i :: placesF p (i + 1) l else placesF p (i + 1) l
theorem places_snoc {α : Type} (p : α → Bool) : ∀ (l : List α) (i : Nat) (c : α), placesF p i (l ++ [c]) = placesF p i l ++ (if p c then [i + l.length] else [])
  | [], i, c => by simp [placesF]
  | d :: l, i, c => by
    simp only [List.cons_append, placesF]
    rw [places_snoc p l (i + 1) c]
    by_cases h : p d
    · simp [h, show i + 1 + l.length = i + (l.length + 1) by omega]
    · simp [h, show i + 1 + l.length = i + (l.length + 1) by omega]
theorem places_len {α : Type} (p : α → Bool) : ∀ (l : List α) (i : Nat), (placesF p i l).length ≤ l.length
  | [], _ => by simp [placesF]
  | d :: l, i => by
    simp only [placesF]
    have := places_len p l (i + 1)
    split <;> simp <;> omega
theorem places_lt {α : Type} (p : α → Bool) : ∀ (l : List α) (i k : Nat), k ∈ placesF p i l → i ≤ k ∧ k < i + l.length
  | [], _, _, h => by simp [placesF] at h
  | d :: l, i, k, h => by
    simp only [placesF] at h
    rw [List.length_cons]
    by_cases hd : p d
    · rw [if_pos hd] at h
      rcases List.mem_cons.1 h with rfl | h
      · omega
      · have := places_lt p l (i + 1) k h; omega
    · rw [if_neg hd] at h
      have := places_lt p l (i + 1) k h; omega
def lastN (l : List Nat) : Nat := l.getLast?.getD 0
theorem last_snoc (l : List Nat) (k : Nat) : lastN (l ++ [k]) = k := by simp [lastN]
/-- What a name means at the first depth that has it. -/
def findF (t n : ByteArray) : Nat → List (List ColV) → Nat × Nat × Int
  | _, [] => (0, 0, 6)
  | d, c :: l => match placesF (meansB t n) 0 c with
    | [] => findF t n (d + 1) l
    | [k] => (d, k, 0)
    | _ => (0, 0, 8)
/-- The environment: a slice of slices of columns. -/
structure ListV where
  A : Option Addr
  n : Nat
  c : Nat
def listVal (l : ListV) : List Value := [.slice l.A l.n l.c]
/-- A slice of columns that is there. -/
structure ColsAt (w : World) (B : Nat) (A : Option Addr) (n c : Nat) (cs : List ColV) : Prop where
  len : cs.length = n
  cap : n ≤ c
  max : c ≤ maxLen
  nil : A = none → n = 0
  recs : Recs w B A 3 (cs.map colCells)
theorem ColsAt.below {w w' : World} {B n c : Nat} {A : Option Addr} {cs : List ColV} (h : ColsAt w B A n c cs) (hb : Below B w w') : ColsAt w' B A n c cs := ⟨h.len, h.cap, h.max, h.nil, h.recs.below hb⟩
theorem ColsAt.more {w : World} {B B' n c : Nat} {A : Option Addr} {cs : List ColV} (h : ColsAt w B A n c cs) (hb : B ≤ B') : ColsAt w B' A n c cs := ⟨h.len, h.cap, h.max, h.nil, h.recs.more hb⟩
theorem ColsAt.kept {w w' : World} {n c : Nat} {A : Option Addr} {cs : List ColV} (h : ColsAt w w.heap.size A n c cs) (hb : Below w.heap.size w w') : ColsAt w' w'.heap.size A n c cs := (h.below hb).more hb.size
/-- A slice of slices of columns that is there. -/
structure EnvAt (w : World) (B : Nat) (A : Option Addr) (n c : Nat) (env : List (List ColV)) : Prop where
  len : env.length = n
  cap : n ≤ c
  max : c ≤ maxLen
  nil : A = none → n = 0
  each : ∃ ls : List ListV, ls.length = n ∧ Recs w B A 1 (ls.map listVal) ∧ ∀ (i : Nat) m cs, ls[i]? = some m → env[i]? = some cs → ColsAt w B m.A m.n m.c cs
theorem EnvAt.below {w w' : World} {B n c : Nat} {A : Option Addr} {env : List (List ColV)} (h : EnvAt w B A n c env) (hb : Below B w w') : EnvAt w' B A n c env :=
  let ⟨ls, h1, h2, h3⟩ := h.each
  ⟨h.len, h.cap, h.max, h.nil, ls, h1, h2.below hb, fun i m cs g1 g2 => (h3 i m cs g1 g2).below hb⟩
theorem EnvAt.more {w : World} {B B' n c : Nat} {A : Option Addr} {env : List (List ColV)} (h : EnvAt w B A n c env) (hb : B ≤ B') : EnvAt w B' A n c env :=
  let ⟨ls, h1, h2, h3⟩ := h.each
  ⟨h.len, h.cap, h.max, h.nil, ls, h1, h2.more hb, fun i m cs g1 g2 => (h3 i m cs g1 g2).more hb⟩
theorem EnvAt.kept {w w' : World} {n c : Nat} {A : Option Addr} {env : List (List ColV)} (h : EnvAt w w.heap.size A n c env) (hb : Below w.heap.size w w') : EnvAt w' w'.heap.size A n c env := (h.below hb).more hb.size
/-- One column of a slice of columns. -/
theorem ColsAt.col {w : World} {B n c : Nat} {A : Option Addr} {cs : List ColV} (h : ColsAt w B A n c cs) {k : Nat} (hk : k < n) :
    ∃ b off c, A = some ⟨b, off, none⟩ ∧ b < B ∧ cs[k]? = some c ∧ w.cell? ⟨b, off + k * 3, none⟩ = some (.string c.tab) ∧ w.cell? ⟨b, off + k * 3 + 1, none⟩ = some (.string c.nam) ∧ w.cell? ⟨b, off + k * 3 + 2, none⟩ = some (.int .i64 c.typ) := by
  have hl := h.len
  obtain ⟨b, off, e, hlt, hc⟩ := h.recs.at (by omega) (by rw [List.length_map]; omega)
  have hcs : cs[k]? = some (cs[k]'(by omega)) := List.getElem?_eq_getElem (by omega)
  have hx : (cs.map colCells)[k]? = some (colCells (cs[k]'(by omega))) := by rw [List.getElem?_map, hcs]; rfl
  exact ⟨b, off, _, e, hlt, hcs, hc k _ 0 _ hx rfl, hc k _ 1 _ hx rfl, hc k _ 2 _ hx rfl⟩
theorem EnvAt.one {w : World} {B n c : Nat} {A : Option Addr} {env : List (List ColV)} (h : EnvAt w B A n c env) {k : Nat} (hk : k < n) :
    ∃ b off A1 n1 c1 cs, A = some ⟨b, off, none⟩ ∧ b < B ∧ env[k]? = some cs ∧ w.cell? ⟨b, off + k, none⟩ = some (.slice A1 n1 c1) ∧ ColsAt w B A1 n1 c1 cs := by
  have hl2 := h.len
  obtain ⟨ls, hl, hr, hea⟩ := h.each
  obtain ⟨b, off, e, hlt, hc⟩ := hr.at (by omega) (by rw [List.length_map]; omega)
  have h1 : ls[k]? = some (ls[k]'(by omega)) := List.getElem?_eq_getElem (by omega)
  have h2 : env[k]? = some (env[k]'(by omega)) := List.getElem?_eq_getElem (by omega)
  have hx : (ls.map listVal)[k]? = some (listVal (ls[k]'(by omega))) := by rw [List.getElem?_map, h1]; rfl
  have := hc k _ 0 _ hx rfl
  rw [Nat.mul_one, Nat.add_zero] at this
  exact ⟨b, off, _, _, _, _, e, hlt, h2, this, hea k _ _ h1 h2⟩
theorem take_at {α : Type} {l : List α} {j : Nat} {c : α} (h : l[j]? = some c) : l.take (j + 1) = l.take j ++ [c] := by
  obtain ⟨hl, rfl⟩ := List.getElem?_eq_some_iff.1 h
  exact List.take_succ_eq_append_getElem hl
theorem drop_at {α : Type} {l : List α} {j : Nat} {c : α} (h : l[j]? = some c) : l.drop j = c :: l.drop (j + 1) := by
  obtain ⟨hl, rfl⟩ := List.getElem?_eq_some_iff.1 h
  exact List.drop_eq_getElem_cons hl
/-- One more column: the places. -/
theorem places_at {α : Type} (p : α → Bool) {l : List α} {j : Nat} {c : α} (h : l[j]? = some c) : placesF p 0 (l.take (j + 1)) = placesF p 0 (l.take j) ++ (if p c then [j] else []) := by
  rw [take_at h, places_snoc, Nat.zero_add]
  have hl := (List.getElem?_eq_some_iff.1 h).1
  rw [List.length_take, Nat.min_eq_left (by omega)]
theorem find_step (t n : ByteArray) {env : List (List ColV)} {k : Nat} {cs : List ColV} (h : env[k]? = some cs) : findF t n k (env.drop k) = match placesF (meansB t n) 0 cs with
    | [] => findF t n (k + 1) (env.drop (k + 1))
    | [i] => (k, i, 0)
    | _ => (0, 0, 8) := by
  rw [drop_at h]
  rfl
end Go.Proofs.YtjbnhaiiedajjaaDoor

/- Whole rows' bytes, and what bytes tell. No walk. -/
import Derived.Test.YtiealokabmjfjaaRcM
namespace Go.Proofs.Ytiealokabmjfjaa
set_option linter.unusedVariables false
open Go.ChangeShapes Go.WideShapes Go.ChangeAt Go.RowKit

def preG (vs : List ValV) (x : Int × List ValV) : Int × List ValV := if x.1 = 0 then (0, vs ++ x.2) else (x.1, [])
def rowsG : Nat → List UInt8 → Int × List ValV
  | 0, [] => (0, [])
  | 0, _ :: _ => (2, [])
  | k + 1, l => match takeG l with
    | .bad e => (e, [])
    | .val v r => preG [v] (rowsG k r)
def getG (l : List UInt8) : Int × List ValV := if 400 < l.length then (4, []) else match l with
  | [] => (3, [])
  | n :: r => if 32 < n.toNat then (4, []) else rowsG n.toNat r
def flatR (r : List ValV) : List UInt8 := (r.map encV).flatten
def bytesR (r : List ValV) : List UInt8 := byteOf r.length :: flatR r
def sumV (r : List ValV) : Int := (r.map sizeV).sum
def sizeR (r : List ValV) : Int := if r.all rightP then 1 + sumV r else 0
def putG (r : List ValV) : Int × List UInt8 := if r.all rightP then (if 32 < r.length ∨ 400 < 1 + sumV r then (4, []) else (0, bytesR r)) else (1, [])

theorem bad_of {l : List UInt8} {e : Int} (h : takeG l = .bad e) : e = 2 ∨ e = 3 := by
  have hb : ∀ l e, boolG l = .bad e → e = 2 ∨ e = 3 := by
    intro l e h
    match l, h with
    | [], h => injection h with h; omega
    | b :: r, h => rw [boolG_cons] at h; split at h; (· cases h); (· injection h with h; omega)
  have ht : ∀ n l e, textG n l = .bad e → e = 2 ∨ e = 3 := by
    intro n l e h
    unfold textG at h
    split at h
    · split at h
      · injection h with h; omega
      · cases h
    · injection h with h; omega
  have hs : ∀ l e, strG l = .bad e → e = 2 ∨ e = 3 := by
    intro l e h
    match l, h with
    | [], h => injection h with h; omega
    | b :: r, h =>
      rw [strG_cons] at h
      split at h
      · exact ht _ _ _ h
      · injection h with h; omega
  have hi : ∀ l e, intG l = .bad e → e = 2 ∨ e = 3 := by
    intro l e h
    unfold intG at h
    split at h
    · injection h with h; omega
    · split at h
      · cases h
      · injection h with h; omega
  match l, h with
  | [], h => injection h with h; omega
  | k :: l, h =>
    rw [takeG_cons] at h
    split at h
    · cases h
    · split at h
      · exact hb _ _ h
      · split at h
        · exact hi _ _ h
        · split at h
          · exact hs _ _ h
          · injection h with h; omega
theorem rowsG_step_bad {k : Nat} {l : List UInt8} {e : Int} (h : takeG l = .bad e) : rowsG (k + 1) l = (e, []) := by rw [rowsG, h]
theorem rowsG_step {k : Nat} {l r : List UInt8} {v : ValV} (h : takeG l = .val v r) : rowsG (k + 1) l = preG [v] (rowsG k r) := by rw [rowsG, h]
theorem preG_nil_of (x : Int × List ValV) (h : x.1 ≠ 0 → x.2 = []) : preG [] x = x := by
  obtain ⟨e, r⟩ := x
  unfold preG
  split
  · rename_i h0; simp only at h0; subst h0; rfl
  · rename_i h0
    simp only at h h0 ⊢
    rw [h h0]
theorem preG_bad (vs : List ValV) {e : Int} (h : e ≠ 0) : preG vs (e, []) = (e, []) := by unfold preG; rw [if_neg h]
theorem preG_ok (vs r : List ValV) : preG vs (0, r) = (0, vs ++ r) := rfl
theorem preG_app (vs : List ValV) (v : ValV) (x : Int × List ValV) : preG vs (preG [v] x) = preG (vs ++ [v]) x := by
  obtain ⟨e, r⟩ := x
  unfold preG
  by_cases h : e = 0
  · simp [h]
  · simp [h]
theorem rowsG_err : ∀ (k : Nat) (l : List UInt8), (rowsG k l).1 = 0 ∨ (((rowsG k l).1 = 2 ∨ (rowsG k l).1 = 3) ∧ (rowsG k l).2 = [])
  | 0, [] => .inl rfl
  | 0, _ :: _ => .inr ⟨.inl rfl, rfl⟩
  | k + 1, l => by
    cases h : takeG l with
    | bad e => rw [rowsG_step_bad h]; exact .inr ⟨bad_of h, rfl⟩
    | val v r =>
      rw [rowsG_step h]
      rcases rowsG_err k r with h1 | ⟨h1, h2⟩
      · unfold preG; rw [if_pos h1]; exact .inl rfl
      · unfold preG; rw [if_neg (by omega)]; exact .inr ⟨h1, rfl⟩
theorem flat_cons (v : ValV) (r : List ValV) : flatR (v :: r) = encV v ++ flatR r := by simp [flatR]
theorem rows_put : ∀ (r : List ValV) (post : List UInt8), r.all rightP = true → rowsG r.length (flatR r ++ post) = if post.isEmpty then (0, r) else (2, [])
  | [], [], _ => rfl
  | [], _ :: _, _ => rfl
  | v :: r, post, h => by
    rw [List.all_cons, Bool.and_eq_true] at h
    rw [flat_cons, List.append_assoc, List.length_cons, rowsG_step (take_enc h.1 _), rows_put r post h.2]
    split
    · rfl
    · rfl
theorem rows_back : ∀ (k : Nat) (l : List UInt8) (r : List ValV), rowsG k l = (0, r) → r.all rightP = true ∧ l = flatR r ∧ r.length = k
  | 0, [], r, h => by
    injection h with _ h
    subst h
    exact ⟨rfl, rfl, rfl⟩
  | 0, _ :: _, r, h => by injection h with h _; omega
  | k + 1, l, r, h => by
    cases ht : takeG l with
    | bad e =>
      rw [rowsG_step_bad ht] at h
      injection h with h _
      have := bad_of ht
      omega
    | val v rest =>
      rw [rowsG_step ht] at h
      rcases hx : rowsG k rest with ⟨e, r'⟩
      rw [hx] at h
      unfold preG at h
      split at h
      · rename_i he
        simp only at he
        subst he
        injection h with _ h
        subst h
        obtain ⟨h1, h2, h3⟩ := rows_back k rest r' hx
        obtain ⟨h4, h5⟩ := take_back ht
        refine ⟨by simp only [List.cons_append, List.nil_append, List.all_cons, h4, h1, Bool.and_self], ?_, by simp [h3]⟩
        simp only [List.cons_append, List.nil_append]
        rw [flat_cons, ← h2, h5]
      · rename_i he
        injection h with h _
        exact absurd h he
theorem rows_cut : ∀ (r : List ValV) (p q : List UInt8), r.all rightP = true → flatR r = p ++ q → q ≠ [] → rowsG r.length p = (3, [])
  | [], p, q, _, h, hq => by
    have h : [] = p ++ q := h
    have := List.append_eq_nil_iff.1 h.symm
    exact absurd this.2 hq
  | v :: r, p, q, h, he, hq => by
    rw [List.all_cons, Bool.and_eq_true] at h
    rw [flat_cons] at he
    rcases List.append_eq_append_iff.1 he with ⟨a, h1, h2⟩ | ⟨a, h1, h2⟩
    · subst h1
      rw [List.length_cons, rowsG_step (take_enc h.1 _), rows_cut r a q h.2 h2 hq]
      rfl
    · by_cases ha : a = []
      · subst ha
        have hp : p = encV v ++ [] := by rw [h1]; simp
        have hq2 : flatR r = [] ++ q := by simpa using h2.symm
        rw [hp, List.length_cons, rowsG_step (take_enc h.1 _), rows_cut r [] q h.2 hq2 hq]
        rfl
      · rw [List.length_cons, rowsG_step_bad (take_cut h.1 h1 ha)]
theorem flat_len_size : ∀ r : List ValV, r.all rightP = true → ((flatR r).length : Int) = sumV r
  | [], _ => rfl
  | v :: r, h => by
    rw [List.all_cons, Bool.and_eq_true] at h
    have := flat_len_size r h.2
    have h2 := enc_len h.1
    rw [flat_cons, List.length_append]
    unfold sumV at *
    rw [List.map_cons, List.sum_cons]
    omega
theorem bytes_len {r : List ValV} (h : r.all rightP = true) : ((bytesR r).length : Int) = 1 + sumV r := by
  have := flat_len_size r h
  unfold bytesR
  rw [List.length_cons]
  omega
/-- A row that has bytes. -/
structure OkR (r : List ValV) : Prop where
  right : r.all rightP = true
  len : r.length ≤ 32
  size : (bytesR r).length ≤ 400
theorem putG_cases (r : List ValV) : (OkR r ∧ putG r = (0, bytesR r)) ∨ (r.all rightP = false ∧ putG r = (1, [])) ∨ (r.all rightP = true ∧ ¬ OkR r ∧ putG r = (4, [])) := by
  unfold putG
  cases h : r.all rightP
  · right; left; simp
  · have hb := bytes_len h
    by_cases h2 : 32 < r.length ∨ 400 < 1 + sumV r
    · right; right
      rw [if_pos rfl, if_pos h2]
      exact ⟨rfl, fun ho => by have := ho.len; have := ho.size; omega, rfl⟩
    · left
      rw [if_pos rfl, if_neg h2]
      exact ⟨⟨h, by omega, by omega⟩, rfl⟩
theorem byteOf_len {n : Nat} (h : n ≤ 32) : (byteOf (n : Int)).toNat = n := byteOf_small (by omega)
theorem get_put {r : List ValV} (h : OkR r) : getG (bytesR r) = (0, r) := by
  have h1 := h.size
  unfold getG
  rw [if_neg (by omega)]
  unfold bytesR
  simp only
  rw [byteOf_len h.len, if_neg (by have := h.len; omega)]
  have := rows_put r [] h.right
  rw [List.append_nil] at this
  rw [this]
  rfl
theorem get_back {l : List UInt8} {r : List ValV} (h : getG l = (0, r)) : OkR r ∧ l = bytesR r := by
  unfold getG at h
  split at h
  · injection h with h _; omega
  · rename_i hl
    match l, h with
    | [], h => injection h with h _; omega
    | n :: l', h =>
      simp only at h
      split at h
      · injection h with h _; omega
      · rename_i hn
        obtain ⟨h1, h2, h3⟩ := rows_back _ _ _ h
        have e : n :: l' = bytesR r := by
          unfold bytesR
          rw [h3, byteOf_nat, h2]
        exact ⟨⟨h1, by omega, by rw [← e]; omega⟩, e⟩
theorem get_err (l : List UInt8) : (getG l).1 = 0 ∨ (((getG l).1 = 2 ∨ (getG l).1 = 3 ∨ (getG l).1 = 4) ∧ (getG l).2 = []) := by
  unfold getG
  split
  · exact .inr ⟨.inr (.inr rfl), rfl⟩
  · match l with
    | [] => exact .inr ⟨.inr (.inl rfl), rfl⟩
    | n :: r =>
      simp only
      split
      · exact .inr ⟨.inr (.inr rfl), rfl⟩
      · rcases rowsG_err n.toNat r with h | ⟨h, h2⟩
        · exact .inl h
        · refine .inr ⟨?_, h2⟩
          omega
theorem get_cut {r : List ValV} (h : OkR r) {p q : List UInt8} (he : bytesR r = p ++ q) (hq : q ≠ []) : getG p = (3, []) := by
  have h1 := h.size
  have hl := congrArg List.length he
  rw [List.length_append] at hl
  unfold getG
  rw [if_neg (by omega)]
  match p, he with
  | [], _ => rfl
  | n :: p, he =>
    unfold bytesR at he
    rw [List.cons_append] at he
    injection he with e1 e2
    subst e1
    simp only
    rw [byteOf_len h.len, if_neg (by have := h.len; omega), rows_cut r p q h.right e2 hq]
theorem get_more {r : List ValV} (h : OkR r) (c : UInt8) : getG (bytesR r ++ [c]) = if (bytesR r).length < 400 then (2, []) else (4, []) := by
  have h1 := h.size
  unfold getG
  rw [List.length_append, List.length_singleton]
  by_cases h2 : (bytesR r).length < 400
  · rw [if_neg (by omega), if_pos h2]
    unfold bytesR
    simp only [List.cons_append]
    rw [byteOf_len h.len, if_neg (by have := h.len; omega), rows_put r [c] h.right]
    rfl
  · rw [if_pos (by omega), if_neg h2]
theorem bytes_inj {r s : List ValV} (hr : OkR r) (hs : OkR s) : bytesR r = bytesR s ↔ r = s := by
  constructor
  · intro h
    have h1 := get_put hr
    rw [h, get_put hs] at h1
    injection h1 with _ h1
    exact h1.symm
  · intro h; rw [h]
end Go.Proofs.Ytiealokabmjfjaa

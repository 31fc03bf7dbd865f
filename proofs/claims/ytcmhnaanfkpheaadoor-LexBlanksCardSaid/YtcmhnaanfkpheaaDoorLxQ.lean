/- Mathematics: tokens one behind the other; their pieces joined by gaps; great letters for small ones. No walk. -/
import Derived.Test.YtcmhnaanfkpheaaDoorLxP
namespace Go.Proofs.YtcmhnaanfkpheaaDoor
set_option linter.unusedVariables false

theorem tokF_eq (l : List UInt8) (f a : Nat) : tokensF l (f + 1) a = if (nextAt l a).t.err ≠ 0 then ([], (nextAt l a).at_, (nextAt l a).t.err) else if (nextAt l a).t.kind = 0 then ([], 0, 0) else if (tokensF l f ((nextAt l a).at_ + (nextAt l a).t.size)).2.2 ≠ 0 then ([], (tokensF l f ((nextAt l a).at_ + (nextAt l a).t.size)).2) else (nextAt l a :: (tokensF l f ((nextAt l a).at_ + (nextAt l a).t.size)).1, 0, 0) := rfl
theorem skip_done : ∀ (b : Bool) (l : List UInt8), skipS false (l.drop (skipS b l)) = 0
  | b, [] => by rw [List.drop_nil]; rfl
  | false, c :: l => by
    by_cases h1 : blankB c = true
    · rw [skipS, if_pos h1, List.drop_succ_cons]
      exact skip_done false l
    · by_cases h2 : (c == 45 && l.head? == some 45) = true
      · rw [skipS, if_neg h1, if_pos h2, List.drop_succ_cons]
        exact skip_done true l
      · have e : skipS false (c :: l) = 0 := by rw [skipS, if_neg h1, if_neg h2]
        rw [e]
        exact e
  | true, c :: l => by
    by_cases h1 : (c == 10) = true
    · rw [skipS, if_pos h1, List.drop_succ_cons]
      exact skip_done false l
    · rw [skipS, if_neg h1, List.drop_succ_cons]
      exact skip_done true l
theorem skip_zero_iff (c : UInt8) (l : List UInt8) : skipS false (c :: l) = 0 ↔ blankB c = false ∧ (c == 45 && l.head? == some 45) = false := by
  by_cases h1 : blankB c = true
  · rw [skipS, if_pos h1, h1]
    simp
  · by_cases h2 : (c == 45 && l.head? == some 45) = true
    · rw [skipS, if_neg h1, if_pos h2, h2]
      simp
    · rw [skipS, if_neg h1, if_neg h2]
      simp only [Bool.not_eq_true] at h1 h2
      simp only [h1, h2, and_self]
theorem skip_take {l : List UInt8} {n : Nat} (h : skipS false l = 0) (hn : 1 ≤ n) : skipS false (l.take n) = 0 := by
  cases l with
  | nil => rw [List.take_nil]; rfl
  | cons c l =>
    obtain ⟨m, rfl⟩ : ∃ m, n = m + 1 := ⟨n - 1, by omega⟩
    rw [List.take_succ_cons, skip_zero_iff]
    obtain ⟨h1, h2⟩ := (skip_zero_iff c l).1 h
    refine ⟨h1, ?_⟩
    cases m with
    | zero => rw [List.take_zero]; simp
    | succ m =>
      cases l with
      | nil => rw [List.take_nil]; exact h2
      | cons d l => rw [List.take_succ_cons]; exact h2
theorem skip_app {l m : List UInt8} {b : UInt8} (h : skipS false l = 0) (hl : l ≠ []) (hb : (b == 45) = false) : skipS false (l ++ b :: m) = 0 := by
  cases l with
  | nil => exact absurd rfl hl
  | cons c l =>
    obtain ⟨h1, h2⟩ := (skip_zero_iff c l).1 h
    rw [List.cons_append, skip_zero_iff]
    refine ⟨h1, ?_⟩
    cases l with
    | nil =>
      rw [List.nil_append, List.head?_cons]
      have : (some b == some (45 : UInt8)) = false := hb
      rw [this, Bool.and_false]
    | cons d l => exact h2
/-- The next token is the end, or a token behind blanks. -/
theorem next_cases (l : List UInt8) (a : Nat) (ha : a ≤ l.length) : nextAt l a = ⟨l.length, tokBad 0⟩ ∨ ∃ k, a ≤ k ∧ k < l.length ∧ nextAt l a = ⟨k, tokL (l.drop k)⟩ ∧ skipS false (l.drop k) = 0 := by
  have hk := skip_le false (l.drop a)
  rw [List.length_drop] at hk
  by_cases h : a + skipS false (l.drop a) = l.length
  · exact .inl (by unfold nextAt; simp only; rw [if_pos h, h])
  · refine .inr ⟨a + skipS false (l.drop a), by omega, by omega, by unfold nextAt; simp only; rw [if_neg h], ?_⟩
    rw [← List.drop_drop]
    exact skip_done _ _
/-- Tokens from a place on, one behind the other, to the end. -/
def RunT (l : List UInt8) : Nat → List TokA → Prop
  | a, [] => nextAt l a = ⟨l.length, tokBad 0⟩
  | a, x :: xs => nextAt l a = x ∧ x.t.err = 0 ∧ x.t.kind ≠ 0 ∧ RunT l (x.at_ + x.t.size) xs
/-- What is known of one of them. -/
theorem tok_facts {l : List UInt8} {a : Nat} {x : TokA} (ha : a ≤ l.length) (h : nextAt l a = x) (he : x.t.err = 0) (hk : x.t.kind ≠ 0) : a ≤ x.at_ ∧ 1 ≤ x.t.size ∧ x.at_ + x.t.size ≤ l.length ∧ tokL (l.drop x.at_) = x.t ∧ skipS false (l.drop x.at_) = 0 := by
  rcases next_cases l a ha with h1 | ⟨k, h1, h2, h3, h4⟩
  · rw [h1] at h
    subst h
    exact absurd rfl hk
  · rw [h3] at h
    subst h
    obtain ⟨s1, s2, _⟩ := tok_size _ he
    rw [List.length_drop] at s2
    exact ⟨h1, s1, by show k + (tokL (l.drop k)).size ≤ l.length; omega, rfl, h4⟩
theorem run_of {l : List UInt8} : ∀ (f a : Nat) (xs : List TokA) (p : Nat), tokensF l f a = (xs, p, 0) → a ≤ l.length → l.length - a < f → RunT l a xs
  | 0, a, xs, p, _, _, hf => absurd hf (by omega)
  | f + 1, a, xs, p, h, ha, hf => by
    rw [tokF_eq] at h
    obtain ⟨x, hx⟩ : ∃ x, nextAt l a = x := ⟨_, rfl⟩
    rw [hx] at h
    by_cases he : x.t.err ≠ 0
    · rw [if_pos he] at h
      injection h with h1 h2
      injection h2 with h2 h3
      exact absurd h3 he
    rw [if_neg he] at h
    have he0 : x.t.err = 0 := by omega
    by_cases hk : x.t.kind = 0
    · rw [if_pos hk] at h
      injection h with h1 h2
      subst h1
      rcases next_cases l a ha with h1 | ⟨k, h1, h2, h3, h4⟩
      · exact h1
      · rw [h3] at hx
        subst hx
        have := (tok_size _ he0).2.2
        exact absurd hk (by show (tokL (l.drop k)).kind ≠ 0; omega)
    rw [if_neg hk] at h
    obtain ⟨f1, f2, f3, _⟩ := tok_facts ha hx he0 hk
    obtain ⟨⟨ys, q, e⟩, hr⟩ : ∃ r, tokensF l f (x.at_ + x.t.size) = r := ⟨_, rfl⟩
    rw [hr] at h
    by_cases h3 : e ≠ 0
    · rw [if_pos h3] at h
      injection h with h1 h2
      injection h2 with h2 h4
      exact absurd h4 h3
    rw [if_neg h3] at h
    injection h with h1 h2
    subst h1
    have e0 : e = 0 := by omega
    subst e0
    exact ⟨hx, he0, hk, run_of f _ ys q hr f3 (by omega)⟩
theorem run_to {l : List UInt8} : ∀ (f a : Nat) (xs : List TokA), RunT l a xs → a ≤ l.length → l.length - a < f → tokensF l f a = (xs, 0, 0)
  | 0, a, xs, _, _, hf => absurd hf (by omega)
  | f + 1, a, xs, h, ha, hf => by
    rw [tokF_eq]
    cases xs with
    | nil =>
      have h1 : nextAt l a = ⟨l.length, tokBad 0⟩ := h
      rw [h1, if_neg (by simp [tokBad]), if_pos (by rfl)]
    | cons x xs =>
      obtain ⟨h1, h2, h3, h4⟩ := h
      obtain ⟨f1, f2, f3, _⟩ := tok_facts ha h1 h2 h3
      have ih := run_to f (x.at_ + x.t.size) xs h4 f3 (by omega)
      rw [h1, ih, if_neg (by omega), if_neg h3, if_neg (by simp)]
theorem err_of {l : List UInt8} : ∀ (f a : Nat) (xs : List TokA) (p e : Nat), tokensF l f a = (xs, p, e) → e ≠ 0 → a ≤ l.length → xs = [] ∧ p < l.length
  | 0, a, xs, p, e, h, he, _ => by
    rw [tokensF] at h
    injection h with h1 h2
    injection h2 with h2 h3
    exact absurd h3.symm he
  | f + 1, a, xs, p, e, h, he, ha => by
    rw [tokF_eq] at h
    obtain ⟨x, hx⟩ : ∃ x, nextAt l a = x := ⟨_, rfl⟩
    rw [hx] at h
    by_cases he1 : x.t.err ≠ 0
    · rw [if_pos he1] at h
      injection h with h1 h2
      injection h2 with h2 h3
      refine ⟨h1.symm, ?_⟩
      rcases next_cases l a ha with h4 | ⟨k, h4, h5, h6, h7⟩
      · rw [h4] at hx
        subst hx
        exact absurd rfl he1
      · rw [h6] at hx
        subst hx
        rw [← h2]
        exact h5
    rw [if_neg he1] at h
    have he0 : x.t.err = 0 := by omega
    by_cases hk : x.t.kind = 0
    · rw [if_pos hk] at h
      injection h with h1 h2
      injection h2 with h2 h3
      exact absurd h3.symm he
    rw [if_neg hk] at h
    obtain ⟨f1, f2, f3, _⟩ := tok_facts ha hx he0 hk
    obtain ⟨⟨ys, q, e2⟩, hr⟩ : ∃ r, tokensF l f (x.at_ + x.t.size) = r := ⟨_, rfl⟩
    rw [hr] at h
    by_cases h3 : e2 ≠ 0
    · rw [if_pos h3] at h
      injection h with h1 h2
      injection h2 with h2 h4
      subst h2 h4
      exact ⟨h1.symm, (err_of f _ ys _ _ hr he f3).2⟩
    · rw [if_neg h3] at h
      injection h with h1 h2
      injection h2 with h2 h4
      exact absurd h4.symm he
/-- A token's own piece is that token, alone. -/
theorem piece_next {l : List UInt8} {k : Nat} {t : Tok} (h : tokL (l.drop k) = t) (hs : skipS false (l.drop k) = 0) (he : t.err = 0) : tokL ((l.drop k).take t.size) = t ∧ ((l.drop k).take t.size).length = t.size ∧ 1 ≤ t.size ∧ skipS false ((l.drop k).take t.size) = 0 ∧ nextAt ((l.drop k).take t.size) 0 = ⟨0, t⟩ := by
  subst h
  obtain ⟨s1, s2, _⟩ := tok_size _ he
  have h1 := tok_take _ he
  have h2 : ((l.drop k).take (tokL (l.drop k)).size).length = (tokL (l.drop k)).size := by rw [List.length_take]; omega
  have h3 := skip_take hs s1
  refine ⟨h1, h2, s1, h3, ?_⟩
  unfold nextAt
  simp only [List.drop_zero, h3, Nat.add_zero]
  rw [if_neg (by omega), h1]
/-- What stands between: blanks, in the end. -/
def GapOk (g : List UInt8) : Prop := (∃ b m, g = b :: m ∧ blankB b = true) ∧ ∀ r, skipS false (g ++ r) = g.length + skipS false r
theorem gap1 : GapOk [32] := ⟨⟨32, [], rfl, by decide⟩, fun r => by rw [List.cons_append, skipS, if_pos (by decide), List.nil_append, List.length_singleton]; omega⟩
theorem gap2 : GapOk [10] := ⟨⟨10, [], rfl, by decide⟩, fun r => by rw [List.cons_append, skipS, if_pos (by decide), List.nil_append, List.length_singleton]; omega⟩
theorem gap3 : GapOk [9, 13, 32] := ⟨⟨9, _, rfl, by decide⟩, fun r => by
  simp only [List.cons_append, List.nil_append, List.length_cons, List.length_nil]
  rw [skipS, if_pos (by decide), skipS, if_pos (by decide), skipS, if_pos (by decide)]
  omega⟩
theorem gap4 : GapOk [32, 45, 45, 120, 39, 10] := ⟨⟨32, _, rfl, by decide⟩, fun r => by
  simp only [List.cons_append, List.nil_append, List.length_cons, List.length_nil]
  rw [skipS, if_pos (by decide), skipS, if_neg (by decide), if_pos (by rfl), skipS, if_neg (by decide), skipS, if_neg (by decide), skipS, if_neg (by decide), skipS, if_pos (by decide)]
  omega⟩
def pieceL (l : List UInt8) (x : TokA) : List UInt8 := (l.drop x.at_).take x.t.size
def joinG (l g : List UInt8) (xs : List TokA) : List UInt8 := (xs.map fun x => pieceL l x ++ g).flatten
theorem joinG_cons (l g : List UInt8) (x : TokA) (xs : List TokA) : joinG l g (x :: xs) = pieceL l x ++ g ++ joinG l g xs := by unfold joinG; rw [List.map_cons, List.flatten_cons]
def shiftG (g : List UInt8) : Nat → List TokA → List TokA
  | _, [] => []
  | p, x :: xs => ⟨p, x.t⟩ :: shiftG g (p + x.t.size + g.length) xs
theorem shift_len (g : List UInt8) : ∀ (p : Nat) (xs : List TokA), (shiftG g p xs).length = xs.length
  | _, [] => rfl
  | p, x :: xs => by rw [shiftG, List.length_cons, List.length_cons, shift_len g _ xs]
theorem shift_at (g : List UInt8) : ∀ (p : Nat) (xs : List TokA) (i : Nat) (x : TokA), xs[i]? = some x → ∃ q, (shiftG g p xs)[i]? = some ⟨q, x.t⟩
  | p, [], i, x, h => by simp at h
  | p, y :: ys, 0, x, h => by
    injection h with h
    subst h
    exact ⟨p, rfl⟩
  | p, y :: ys, i + 1, x, h => shift_at g _ ys i x (by simpa using h)
theorem run_skip {l g r : List UInt8} {q : Nat} {ys : List TokA} (hg : GapOk g) (hd : l.drop q = g ++ r) (h : RunT l (q + g.length) ys) : RunT l q ys := by
  have e : nextAt l q = nextAt l (q + g.length) := by
    have hd2 : l.drop (q + g.length) = r := by rw [← List.drop_drop, hd, List.drop_left']; rfl
    unfold nextAt
    rw [hd, hd2, hg.2 r, Nat.add_assoc]
  cases ys with
  | nil => show nextAt l q = _; rw [e]; exact h
  | cons y ys => exact ⟨e.trans h.1, h.2⟩
/-- Pieces joined by gaps have the same tokens. -/
theorem run_gap {l g : List UInt8} (hg : GapOk g) : ∀ (xs : List TokA) (a : Nat), RunT l a xs → a ≤ l.length → ∀ pre : List UInt8, RunT (pre ++ joinG l g xs) pre.length (shiftG g pre.length xs)
  | [], a, _, _, pre => by
    show nextAt _ _ = _
    have e : joinG l g [] = [] := rfl
    rw [e, List.append_nil]
    unfold nextAt
    rw [List.drop_length]
    simp only [skipS, Nat.add_zero, if_true]
  | x :: xs, a, h, ha, pre => by
    obtain ⟨h1, h2, h3, h4⟩ := h
    obtain ⟨f1, f2, f3, f4, f5⟩ := tok_facts ha h1 h2 h3
    obtain ⟨p1, p2, p3, p4, _⟩ := piece_next f4 f5 h2
    have ih := run_gap hg xs _ h4 f3 (pre ++ pieceL l x ++ g)
    obtain ⟨⟨b, m, hbm, hb⟩, _⟩ := id hg
    rw [joinG_cons, shiftG]
    obtain ⟨P, hP⟩ : ∃ P, pieceL l x = P := ⟨_, rfl⟩
    obtain ⟨J, hJ⟩ : ∃ J, joinG l g xs = J := ⟨_, rfl⟩
    have hP2 : (l.drop x.at_).take x.t.size = P := hP
    rw [hP2] at p1 p2 p4
    rw [hP, hJ] at ih ⊢
    have e1 : pre ++ (P ++ g ++ J) = pre ++ P ++ g ++ J := by simp
    rw [e1]
    have hlen : (pre ++ P ++ g).length = pre.length + x.t.size + g.length := by rw [List.length_append, List.length_append, p2]
    rw [hlen] at ih
    have hnl : P ≠ [] := by
      intro e
      rw [e] at p2
      simp at p2
      omega
    have d1 : (pre ++ P ++ g ++ J).drop pre.length = P ++ b :: (m ++ J) := by
      rw [List.append_assoc, List.append_assoc, List.drop_left', hbm]
      · simp
      · rfl
    have d2 : (pre ++ P ++ g ++ J).drop (pre.length + x.t.size) = g ++ J := by
      rw [List.append_assoc (pre ++ P), List.drop_left']
      rw [List.length_append, p2]
    have t1 : tokL (P ++ b :: (m ++ J)) = x.t := by rw [tok_app hb P (by rw [p1]; exact h2) (by rw [p1]; exact p2.symm)]; exact p1
    have k1 : skipS false (P ++ b :: (m ++ J)) = 0 := skip_app p4 hnl (blank_no hb).2.2.2.2.2.2
    have n1 : nextAt (pre ++ P ++ g ++ J) pre.length = ⟨pre.length, x.t⟩ := by
      unfold nextAt
      simp only [d1, k1, Nat.add_zero]
      rw [if_neg (by simp only [List.length_append]; omega), t1]
    exact ⟨n1, h2, h3, run_skip hg d2 ih⟩
/-- A small letter made great. -/
def upc (c : UInt8) : UInt8 := if decide (97 ≤ c.toNat) && decide (c.toNat ≤ 122) then c - 32 else c
theorem upc_all (c : UInt8) : blankB (upc c) = blankB c ∧ (upc c == 45) = (c == 45) ∧ (upc c == 10) = (c == 10) ∧ (lowB (upc c) || upB (upc c)) = (lowB c || upB c) ∧ digB (upc c) = digB c ∧ wordB (upc c) = wordB c ∧ smallB (upc c) = smallB c ∧ (upc c == 34) = (c == 34) ∧ (upc c == 39) = (c == 39) ∧ (upc c == 124) = (c == 124) ∧ (upc c == 60) = (c == 60) ∧ (upc c == 62) = (c == 62) ∧ (upc c == 61) = (c == 61) ∧ [40, 41, 44, 46, 59, 43, 45, 42, 47, 37, 61].contains (upc c) = [40, 41, 44, 46, 59, 43, 45, 42, 47, 37, 61].contains c ∧ (digB c = true → (upc c).toNat = c.toNat) ∧ ((c == 124 || c == 60 || c == 62 || [40, 41, 44, 46, 59, 43, 45, 42, 47, 37, 61].contains c) = true → upc c = c) := by
  have := all_byte (p := fun c => decide (blankB (upc c) = blankB c ∧ (upc c == 45) = (c == 45) ∧ (upc c == 10) = (c == 10) ∧ (lowB (upc c) || upB (upc c)) = (lowB c || upB c) ∧ digB (upc c) = digB c ∧ wordB (upc c) = wordB c ∧ smallB (upc c) = smallB c ∧ (upc c == 34) = (c == 34) ∧ (upc c == 39) = (c == 39) ∧ (upc c == 124) = (c == 124) ∧ (upc c == 60) = (c == 60) ∧ (upc c == 62) = (c == 62) ∧ (upc c == 61) = (c == 61) ∧ [40, 41, 44, 46, 59, 43, 45, 42, 47, 37, 61].contains (upc c) = [40, 41, 44, 46, 59, 43, 45, 42, 47, 37, 61].contains c ∧ (digB c = true → (upc c).toNat = c.toNat) ∧ ((c == 124 || c == 60 || c == 62 || [40, 41, 44, 46, 59, 43, 45, 42, 47, 37, 61].contains c) = true → upc c = c))) (by decide +kernel) c
  exact of_decide_eq_true this
theorem skip_up : ∀ (b : Bool) (l : List UInt8), skipS b (l.map upc) = skipS b l
  | b, [] => rfl
  | false, c :: l => by
    obtain ⟨u1, u2, _⟩ := upc_all c
    have hh : ((l.map upc).head? == some 45) = (l.head? == some 45) := by
      cases l with
      | nil => rfl
      | cons d l => exact (upc_all d).2.1
    rw [List.map_cons, skipS, skipS, u1, u2, hh, skip_up false l, skip_up true l]
  | true, c :: l => by
    rw [List.map_cons, skipS, skipS, (upc_all c).2.2.1, skip_up false l, skip_up true l]
theorem run_up {p : UInt8 → Bool} (hp : ∀ c, p (upc c) = p c) : ∀ l : List UInt8, runB p (l.map upc) = runB p l
  | [] => rfl
  | c :: l => by
    rw [List.map_cons]
    cases hc : p c with
    | false => rw [run_stop (by rw [hp]; exact hc), run_stop hc]
    | true => rw [run_cons (by rw [hp]; exact hc), run_cons hc, run_up hp l]
theorem num_up : ∀ (l : List UInt8) (k : Nat), numB8 k (l.map upc) = numB8 k l
  | [], k => rfl
  | c :: l, k => by
    have h1 := (upc_all c).2.2.2.2.1
    rw [List.map_cons, numB8, numB8, h1]
    by_cases hd : digB c = true
    · have h2 := (upc_all c).2.2.2.2.2.2.2.2.2.2.2.2.2.2.1 hd
      rw [if_pos hd, if_pos hd, h2, num_up l]
    · rw [if_neg hd, if_neg hd]
theorem sign_up (l : List UInt8) : signB (l.map upc) = signB l := by
  cases l with
  | nil => rfl
  | cons c l =>
    obtain ⟨_, _, _, _, _, _, _, _, _, u1, u2, u3, _, u4, _⟩ := upc_all c
    have hh : ∀ d : UInt8, d = 124 ∨ d = 62 ∨ d = 61 → ((l.map upc).head? == some d) = (l.head? == some d) := by
      intro d hd
      cases l with
      | nil => rfl
      | cons x l =>
        obtain ⟨_, _, _, _, _, _, _, _, _, v1, _, v2, v3, _⟩ := upc_all x
        show (upc x == d) = (x == d)
        rcases hd with rfl | rfl | rfl
        · exact v1
        · exact v2
        · exact v3
    rw [List.map_cons]
    unfold signB
    simp only [u1, u2, u3, u4, hh 124 (by simp), hh 62 (by simp), hh 61 (by simp)]
theorem sign_taken (l : List UInt8) : (l.map upc).take (signB l) = l.take (signB l) := by
  cases l with
  | nil => rfl
  | cons c l =>
    have h2 := signB_two (c :: l)
    have u := (upc_all c).2.2.2.2.2.2.2.2.2.2.2.2.2.2.2
    obtain ⟨k, hk⟩ : ∃ k, signB (c :: l) = k := ⟨_, rfl⟩
    have hc : k ≠ 0 → upc c = c := by
      intro h0
      apply u
      unfold signB at hk
      simp only at hk
      by_cases g1 : (c == 124) = true
      · rw [g1]; rfl
      rw [if_neg g1] at hk
      by_cases g2 : (c == 60) = true
      · rw [g2, Bool.or_true]; rfl
      rw [if_neg g2] at hk
      by_cases g3 : (c == 62) = true
      · rw [g3, Bool.or_true]; rfl
      rw [if_neg g3] at hk
      by_cases g4 : [40, 41, 44, 46, 59, 43, 45, 42, 47, 37, 61].contains c = true
      · rw [g4, Bool.or_true]
      rw [if_neg g4] at hk
      exact absurd hk.symm h0
    have hd : k = 2 → ∀ d m, l = d :: m → upc d = d := by
      intro h0 d m e
      subst e h0
      obtain ⟨_, _, _, _, _, _, _, _, _, _, _, _, _, _, _, u2⟩ := upc_all d
      apply u2
      unfold signB at hk
      by_cases g1 : d = 124
      · rw [g1]; rfl
      by_cases g2 : d = 62
      · rw [g2]; rfl
      by_cases g3 : d = 61
      · rw [g3]; rfl
      exfalso
      have k1 : ((d :: m).head? == some (124 : UInt8)) = false := by simpa using g1
      have k2 : ((d :: m).head? == some (62 : UInt8)) = false := by simpa using g2
      have k3 : ((d :: m).head? == some (61 : UInt8)) = false := by simpa using g3
      revert hk
      simp only [k1, k2, k3, Bool.or_self, Bool.false_eq_true, if_false]
      (repeat' split) <;> omega
    rw [hk] at h2 ⊢
    match k, h2, hc, hd with
    | 0, _, _, _ => rfl
    | 1, _, hc, _ => rw [List.map_cons, List.take_succ_cons, List.take_succ_cons, hc (by omega)]; rfl
    | 2, _, hc, hd =>
      cases l with
      | nil => rw [List.map_cons, hc (by omega)]; rfl
      | cons d m => rw [List.map_cons, List.map_cons, hc (by omega), hd rfl d m rfl]; rfl
theorem tok_up (l : List UInt8) (hq : ∀ c ∈ l, c ≠ 39 ∧ c ≠ 34) : tokL (l.map upc) = tokL l := by
  cases l with
  | nil => rfl
  | cons c l =>
    obtain ⟨q1, q2⟩ := hq c (List.mem_cons_self ..)
    obtain ⟨_, _, _, u1, u2, _, _, u3, u4, _⟩ := upc_all c
    have n1 : (c == 34) = false := by simpa using q2
    have n2 : (c == 39) = false := by simpa using q1
    rw [List.map_cons, tokL_cons, tokL_cons, ← List.map_cons]
    unfold kindF
    rw [u1, u2, u3, u4, n1, n2]
    obtain ⟨L, hL⟩ : ∃ L, c :: l = L := ⟨_, rfl⟩
    rw [hL]
    have w1 : tokWord (L.map upc) = tokWord L := by
      unfold tokWord
      have e1 := run_up (p := wordB) (fun c => (upc_all c).2.2.2.2.2.1) L
      have e2 : ∀ n, ((L.map upc).take n).map smallB = (L.take n).map smallB := fun n => by
        rw [← List.map_take, List.map_map]
        exact List.map_congr_left fun c _ => (upc_all c).2.2.2.2.2.2.1
      simp only [e1, e2]
    have w2 : tokNum (L.map upc) = tokNum L := by
      unfold tokNum
      rw [num_up, run_up (p := digB) fun c => (upc_all c).2.2.2.2.1]
    have w3 : tokSign (L.map upc) = tokSign L := by
      unfold tokSign
      rw [sign_up, sign_taken]
    rw [w1, w2, w3]
    simp only [Bool.false_eq_true, if_false]
theorem next_up (l : List UInt8) (hq : ∀ c ∈ l, c ≠ 39 ∧ c ≠ 34) (a : Nat) : nextAt (l.map upc) a = nextAt l a := by
  have e1 : ∀ k, (l.map upc).drop k = (l.drop k).map upc := fun k => (List.map_drop ..).symm
  unfold nextAt
  simp only [e1, skip_up, List.length_map]
  rw [tok_up _ fun c hc => hq c (List.mem_of_mem_drop hc)]
theorem toks_up (l : List UInt8) (hq : ∀ c ∈ l, c ≠ 39 ∧ c ≠ 34) : ∀ f a, tokensF (l.map upc) f a = tokensF l f a
  | 0, a => rfl
  | f + 1, a => by rw [tokF_eq, tokF_eq, next_up l hq, toks_up l hq f]
end Go.Proofs.YtcmhnaanfkpheaaDoor

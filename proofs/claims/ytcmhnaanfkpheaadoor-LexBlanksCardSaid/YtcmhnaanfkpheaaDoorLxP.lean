/- Mathematics: a token's own piece is that token alone; so it is ahead of a blank; case. No walk. -/
import Derived.Test.YtcmhnaanfkpheaaDoorLxN
namespace Go.Proofs.YtcmhnaanfkpheaaDoor
set_option linter.unusedVariables false

theorem run_take {p : UInt8 → Bool} : ∀ {l : List UInt8} {n : Nat}, runB p l ≤ n → runB p (l.take n) = runB p l
  | [], n, _ => by simp
  | c :: l, n, h => by
    cases hc : p c with
    | false =>
      cases n with
      | zero => rw [run_stop hc]; rfl
      | succ n => rw [List.take_succ_cons, run_stop hc, run_stop hc]
    | true =>
      rw [run_cons hc] at h ⊢
      obtain ⟨m, rfl⟩ : ∃ m, n = m + 1 := ⟨n - 1, by omega⟩
      rw [List.take_succ_cons, run_cons hc, run_take (by omega)]
theorem num_take : ∀ {l : List UInt8} {m n : Nat}, runB digB l ≤ n → numB8 m (l.take n) = numB8 m l
  | [], m, n, _ => by simp
  | c :: l, m, n, h => by
    cases hc : digB c with
    | false =>
      cases n with
      | zero => rw [List.take_zero, numB8, numB8, if_neg (by rw [hc]; decide)]
      | succ n => rw [List.take_succ_cons, numB8, numB8, if_neg (by rw [hc]; decide), if_neg (by rw [hc]; decide)]
    | true =>
      rw [run_cons hc] at h
      obtain ⟨k, rfl⟩ : ∃ k, n = k + 1 := ⟨n - 1, by omega⟩
      rw [List.take_succ_cons, numB8, numB8, if_pos hc, if_pos hc, num_take (by omega)]
theorem textS_ne {c : UInt8} (hc : ¬ (c == 39) = true) (l : List UInt8) : textS (c :: l) = (textS l).map (fun p => (p.1 + 1, c :: p.2)) := by
  cases l <;> (conv => lhs; rw [textS, if_neg hc])
theorem textS_take : ∀ {l : List UInt8} {n : Nat} {t : List UInt8}, textS l = some (n, t) → textS (l.take (n + 1)) = some (n, t)
  | [], n, t, h => by rw [textS] at h; cases h
  | [c], n, t, h => by
    rw [List.take_of_length_le (by simp)]
    exact h
  | c :: d :: m, n, t, h => by
    rw [textS] at h
    by_cases hc : (c == 39) = true
    · rw [if_pos hc] at h
      by_cases hd : (d == 39) = true
      · rw [if_pos hd] at h
        obtain ⟨⟨n', t'⟩, h1, h2⟩ := Option.map_eq_some_iff.1 h
        injection h2 with h3 h4
        simp only at h3 h4
        subst h3 h4
        rw [List.take_succ_cons, List.take_succ_cons, textS, if_pos hc, if_pos hd, textS_take h1]
        rfl
      · rw [if_neg hd] at h
        injection h with h
        injection h with h1 h2
        subst h1 h2
        rw [List.take_succ_cons, List.take_zero, textS, if_pos hc]
    · rw [if_neg hc] at h
      obtain ⟨⟨n', t'⟩, h1, h2⟩ := Option.map_eq_some_iff.1 h
      injection h2 with h3 h4
      simp only at h3 h4
      subst h3 h4
      rw [List.take_succ_cons, textS_ne hc, textS_take h1]
      rfl
theorem signB_two (l : List UInt8) : signB l ≤ 2 := by
  cases l with
  | nil => exact Nat.zero_le _
  | cons c l =>
    unfold signB
    (repeat' split) <;> omega
theorem sign_head {c : UInt8} {l k : List UInt8} (h : l.head? = k.head?) : signB (c :: l) = signB (c :: k) := by
  unfold signB
  simp only [h]
theorem sign_one {c : UInt8} {l : List UInt8} (h : signB (c :: l) = 1) : signB [c] = 1 := by
  unfold signB at h ⊢
  simp only at h ⊢
  by_cases h1 : (c == 124) = true
  · rw [if_pos h1] at h
    split at h <;> omega
  rw [if_neg h1] at h ⊢
  by_cases h2 : (c == 60) = true
  · rw [if_pos h2]; rfl
  rw [if_neg h2] at h ⊢
  by_cases h3 : (c == 62) = true
  · rw [if_pos h3]; rfl
  rw [if_neg h3] at h ⊢
  exact h
theorem sign_take (l : List UInt8) : signB (l.take (signB l)) = signB l := by
  cases l with
  | nil => rfl
  | cons c l =>
    have h2 := signB_two (c :: l)
    have hle := signB_le (c :: l)
    obtain ⟨k, hk⟩ : ∃ k, signB (c :: l) = k := ⟨_, rfl⟩
    rw [hk] at h2 hle ⊢
    match k, hk, h2, hle with
    | 0, _, _, _ => rfl
    | 1, hk, _, _ => rw [List.take_succ_cons, List.take_zero]; exact sign_one hk
    | 2, hk, _, hle =>
      cases l with
      | nil => rw [List.length_singleton] at hle; omega
      | cons d l => rw [← hk, hk, List.take_succ_cons, List.take_succ_cons, ← hk]; exact sign_head rfl
/-- What a byte begins. -/
def kindF (c : UInt8) (l : List UInt8) : Tok := if lowB c || upB c then tokWord l else if digB c then tokNum l else if c == 34 then tokName l else if c == 39 then tokText l else tokSign l
theorem tokL_cons (c : UInt8) (l : List UInt8) : tokL (c :: l) = kindF c (c :: l) := rfl
theorem word_take (l : List UInt8) (h : (tokWord l).err = 0) : tokWord (l.take (tokWord l).size) = tokWord l := by
  obtain ⟨n, hn⟩ : ∃ n, runB wordB l = n := ⟨_, rfl⟩
  have e1 : runB wordB (l.take n) = n := by rw [run_take (by omega)]; exact hn
  have e2 : (l.take n).take n = l.take n := by rw [List.take_take, Nat.min_self]
  unfold tokWord at h ⊢
  simp only [hn] at h ⊢
  by_cases hr : resB ((l.take n).map smallB) = true
  · rw [if_pos hr]
    simp only [e1, e2, if_pos hr]
  · rw [if_neg hr] at h ⊢
    by_cases h20 : 20 < n
    · rw [if_pos h20] at h
      exact absurd h (by decide)
    · rw [if_neg h20]
      simp only [e1, e2, if_neg hr, if_neg h20]
theorem numT_take (l : List UInt8) (h : (tokNum l).err = 0) : tokNum (l.take (tokNum l).size) = tokNum l := by
  unfold tokNum at h ⊢
  by_cases hr : 1000000000000000 < numB8 0 l
  · rw [if_pos hr] at h
    exact absurd h (by decide)
  · rw [if_neg hr]
    simp only [num_take (Nat.le_refl _), if_neg hr, run_take (Nat.le_refl _)]
theorem name_take (l : List UInt8) (h : (tokName l).err = 0) : tokName (l.take (tokName l).size) = tokName l := by
  obtain ⟨n, hn⟩ : ∃ n, runB (fun c => c != 34) (l.drop 1) = n := ⟨_, rfl⟩
  unfold tokName at h ⊢
  simp only [hn] at h ⊢
  by_cases h1 : l.length ≤ n + 1
  · rw [if_pos h1] at h
    exact absurd h (by decide)
  rw [if_neg h1] at h ⊢
  by_cases h2 : (!formB ((l.drop 1).take n)) = true
  · rw [if_pos h2] at h
    exact absurd h (by decide)
  rw [if_neg h2] at h ⊢
  by_cases h3 : 20 < n
  · rw [if_pos h3] at h
    exact absurd h (by decide)
  rw [if_neg h3]
  have e1 : (l.take (n + 2)).drop 1 = (l.drop 1).take (n + 1) := by rw [List.drop_take]; rfl
  have e2 : runB (fun c => c != 34) ((l.drop 1).take (n + 1)) = n := by rw [run_take (by omega)]; exact hn
  have e3 : ((l.drop 1).take (n + 1)).take n = (l.drop 1).take n := by rw [List.take_take, Nat.min_eq_left (by omega)]
  have e4 : (l.take (n + 2)).length = n + 2 := by rw [List.length_take]; omega
  simp only [e1, e2, e3, e4, if_neg h2, if_neg h3]
  rw [if_neg (by omega)]
theorem text_take (l : List UInt8) (h : (tokText l).err = 0) : tokText (l.take (tokText l).size) = tokText l := by
  unfold tokText at h ⊢
  cases ht : textS (l.drop 1) with
  | none =>
    rw [ht] at h
    exact absurd h (by decide)
  | some p =>
    obtain ⟨n, t⟩ := p
    rw [ht] at h
    simp only at h ⊢
    by_cases h1 : (!(t.all fun c => decide (32 ≤ c.toNat) && decide (c.toNat ≤ 126))) = true
    · rw [if_pos h1] at h
      exact absurd h (by decide)
    rw [if_neg h1] at h ⊢
    by_cases h2 : 100 < t.length
    · rw [if_pos h2] at h
      exact absurd h (by decide)
    rw [if_neg h2]
    have e1 : (l.take (n + 2)).drop 1 = (l.drop 1).take (n + 1) := by rw [List.drop_take]; rfl
    simp only [e1, textS_take ht, if_neg h1, if_neg h2]
theorem signT_take (l : List UInt8) (h : (tokSign l).err = 0) : tokSign (l.take (tokSign l).size) = tokSign l := by
  obtain ⟨n, hn⟩ : ∃ n, signB l = n := ⟨_, rfl⟩
  have e1 := sign_take l
  unfold tokSign at h ⊢
  simp only [hn] at h e1 ⊢
  by_cases h1 : (n == 0) = true
  · rw [if_pos h1] at h
    exact absurd h (by decide)
  rw [if_neg h1]
  simp only [e1, if_neg h1, List.take_take, Nat.min_self]
theorem kind_take (c : UInt8) (l : List UInt8) (h : (kindF c l).err = 0) : kindF c (l.take (kindF c l).size) = kindF c l := by
  unfold kindF at h ⊢
  by_cases h1 : (lowB c || upB c) = true
  · simp only [if_pos h1] at h ⊢; exact word_take l h
  simp only [if_neg h1] at h ⊢
  by_cases h2 : digB c = true
  · simp only [if_pos h2] at h ⊢; exact numT_take l h
  simp only [if_neg h2] at h ⊢
  by_cases h3 : (c == 34) = true
  · simp only [if_pos h3] at h ⊢; exact name_take l h
  simp only [if_neg h3] at h ⊢
  by_cases h4 : (c == 39) = true
  · simp only [if_pos h4] at h ⊢; exact text_take l h
  simp only [if_neg h4] at h ⊢
  exact signT_take l h
theorem tok_take (l : List UInt8) (h : (tokL l).err = 0) : tokL (l.take (tokL l).size) = tokL l := by
  match l, h with
  | [], h => exact absurd h (by decide)
  | c :: l, h =>
    have hs := (tok_size _ h).1
    have hk := kind_take c (c :: l) h
    rw [← tokL_cons] at hk
    obtain ⟨m, hm⟩ : ∃ m, (tokL (c :: l)).size = m + 1 := ⟨(tokL (c :: l)).size - 1, by omega⟩
    rw [hm, List.take_succ_cons] at hk ⊢
    rw [tokL_cons]
    exact hk
/-- Facts on bytes, all of them tried. -/
theorem all_byte {p : UInt8 → Bool} (h : (List.range 256).all (fun n => p (UInt8.ofNat n)) = true) (c : UInt8) : p c = true := by
  have := List.all_eq_true.1 h c.toNat (List.mem_range.2 c.toNat_lt)
  rwa [UInt8.ofNat_toNat] at this
theorem run_full {p : UInt8 → Bool} {l : List UInt8} (h : runB p l = l.length) : ∀ c ∈ l, p c = true := by
  intro c hc
  obtain ⟨j, hj⟩ := List.getElem?_of_mem hc
  have hlt : j < l.length := (List.getElem?_eq_some_iff.1 hj).1
  exact run_at (i := j) (by omega) hj
theorem run_then {p : UInt8 → Bool} {d : UInt8} {m : List UInt8} (hd : p d = false) : ∀ {l : List UInt8}, (∀ c ∈ l, p c = true) → runB p (l ++ d :: m) = l.length
  | [], _ => run_stop hd
  | c :: l, h => by rw [List.cons_append, run_cons (h c (List.mem_cons_self ..)), run_then hd fun d hd => h d (List.mem_cons_of_mem _ hd)]; rfl
theorem run_more {p : UInt8 → Bool} {m : List UInt8} : ∀ {l : List UInt8}, runB p l < l.length → runB p (l ++ m) = runB p l
  | [], h => absurd h (Nat.not_lt_zero _)
  | c :: l, h => by
    cases hc : p c with
    | false => rw [List.cons_append, run_stop hc, run_stop hc]
    | true =>
      rw [run_cons hc, List.length_cons] at h
      rw [List.cons_append, run_cons hc, run_cons hc, run_more (by omega)]
theorem blank_no {b : UInt8} (h : blankB b = true) : wordB b = false ∧ digB b = false ∧ (b == 39) = false ∧ (b == 124) = false ∧ (b == 62) = false ∧ (b == 61) = false ∧ (b == 45) = false := by
  have := all_byte (p := fun b => !blankB b || (!wordB b && !digB b && !(b == 39) && !(b == 124) && !(b == 62) && !(b == 61) && !(b == 45))) (by decide +kernel) b
  simp only [h, Bool.not_true, Bool.false_or, Bool.and_eq_true, Bool.not_eq_true'] at this
  obtain ⟨⟨⟨⟨⟨⟨h1, h2⟩, h3⟩, h4⟩, h5⟩, h6⟩, h7⟩ := this
  exact ⟨h1, h2, h3, h4, h5, h6, h7⟩
section
variable {b : UInt8} {m : List UInt8}
theorem word_app (hb : blankB b = true) (l : List UInt8) (h : (tokWord l).err = 0) (hs : (tokWord l).size = l.length) : tokWord (l ++ b :: m) = tokWord l := by
  have hn : runB wordB l = l.length := by
    unfold tokWord at h hs
    simp only at h hs
    split at h
    · rename_i hr
      rw [if_pos hr] at hs
      exact hs
    · rename_i hr
      rw [if_neg hr] at hs
      split at h
      · exact absurd h (by decide)
      · rename_i h2
        rw [if_neg h2] at hs
        exact hs
  have e1 : runB wordB (l ++ b :: m) = l.length := run_then (blank_no hb).1 (run_full hn)
  unfold tokWord
  simp only [hn, e1, List.take_left', List.take_length]
theorem num_app (hb : blankB b = true) : ∀ (l : List UInt8) (k : Nat), numB8 k (l ++ b :: m) = numB8 k l
  | [], k => by
    show numB8 k (b :: m) = k
    rw [numB8, if_neg (by rw [(blank_no hb).2.1]; decide)]
  | c :: l, k => by
    rw [List.cons_append, numB8, numB8]
    split
    · exact num_app hb l _
    · rfl
theorem numT_app (hb : blankB b = true) (l : List UInt8) (h : (tokNum l).err = 0) (hs : (tokNum l).size = l.length) : tokNum (l ++ b :: m) = tokNum l := by
  have hn : runB digB l = l.length := by
    unfold tokNum at h hs
    split at h
    · exact absurd h (by decide)
    · rename_i hr
      rw [if_neg hr] at hs
      exact hs
  have e1 : runB digB (l ++ b :: m) = l.length := run_then (blank_no hb).2.1 (run_full hn)
  unfold tokNum
  simp only [hn, e1, num_app hb]
theorem name_app (l : List UInt8) (h : (tokName l).err = 0) (hs : (tokName l).size = l.length) : tokName (l ++ b :: m) = tokName l := by
  obtain ⟨n, hn⟩ : ∃ n, runB (fun c => c != 34) (l.drop 1) = n := ⟨_, rfl⟩
  unfold tokName at h hs ⊢
  simp only [hn] at h hs ⊢
  by_cases h1 : l.length ≤ n + 1
  · rw [if_pos h1] at h
    exact absurd h (by decide)
  rw [if_neg h1] at h hs ⊢
  have e0 : (l ++ b :: m).drop 1 = l.drop 1 ++ b :: m := List.drop_append_of_le_length (by omega)
  have e1 : runB (fun c => c != 34) (l.drop 1 ++ b :: m) = n := by rw [run_more (by rw [hn, List.length_drop]; omega)]; exact hn
  have e2 : (l.drop 1 ++ b :: m).take n = (l.drop 1).take n := List.take_append_of_le_length (by rw [List.length_drop]; omega)
  simp only [e0, e1, e2]
  rw [if_neg (by rw [List.length_append]; omega)]
theorem textS_app (hb : (b == 39) = false) : ∀ {l : List UInt8} {n : Nat} {t : List UInt8}, textS l = some (n, t) → textS (l ++ b :: m) = some (n, t)
  | [], n, t, h => by rw [textS] at h; cases h
  | [c], n, t, h => by
    rw [textS] at h
    by_cases hc : (c == 39) = true
    · rw [if_pos hc] at h
      rw [List.cons_append, List.nil_append, textS, if_pos hc]
      simp only [hb, if_neg Bool.false_ne_true]
      exact h
    · rw [if_neg hc, textS] at h
      cases h
  | c :: d :: k, n, t, h => by
    rw [textS] at h
    by_cases hc : (c == 39) = true
    · rw [if_pos hc] at h
      rw [List.cons_append, List.cons_append, textS, if_pos hc]
      by_cases hd : (d == 39) = true
      · rw [if_pos hd] at h
        obtain ⟨⟨n', t'⟩, h1, h2⟩ := Option.map_eq_some_iff.1 h
        rw [if_pos hd, textS_app hb h1]
        exact congrArg some h2
      · rw [if_neg hd] at h
        rw [if_neg hd]
        exact h
    · rw [if_neg hc] at h
      obtain ⟨⟨n', t'⟩, h1, h2⟩ := Option.map_eq_some_iff.1 h
      rw [List.cons_append, textS_ne hc, textS_app hb h1]
      exact congrArg some h2
theorem text_app (hb : blankB b = true) (l : List UInt8) (h : (tokText l).err = 0) : tokText (l ++ b :: m) = tokText l := by
  unfold tokText at h ⊢
  cases ht : textS (l.drop 1) with
  | none =>
    rw [ht] at h
    exact absurd h (by decide)
  | some p =>
    obtain ⟨n, t⟩ := p
    have h1 : 1 ≤ l.length := by
      cases l with
      | nil => rw [List.drop_nil, textS] at ht; cases ht
      | cons c l => rw [List.length_cons]; omega
    have e0 : (l ++ b :: m).drop 1 = l.drop 1 ++ b :: m := List.drop_append_of_le_length h1
    rw [e0, textS_app (blank_no hb).2.2.1 ht]
theorem sign_app (hb : blankB b = true) (l : List UInt8) (h : (tokSign l).err = 0) (hs : (tokSign l).size = l.length) : tokSign (l ++ b :: m) = tokSign l := by
  obtain ⟨_, _, _, h1, h2, h3, _⟩ := blank_no hb
  have hn : signB l = l.length := by
    unfold tokSign at h hs
    split at h
    · exact absurd h (by decide)
    · rename_i hr
      rw [if_neg hr] at hs
      exact hs
  have h0 : signB l ≠ 0 := by
    intro e
    unfold tokSign at h
    rw [e, if_pos (show ((0 : Nat) == 0) = true from rfl)] at h
    exact absurd h (by decide)
  have e1 : signB (l ++ b :: m) = signB l := by
    match l, hn, h0 with
    | [], _, h0 => exact absurd rfl h0
    | [c], hn, h0 =>
      have g1 : (some b == some (124 : UInt8)) = false := h1
      have g2 : (some b == some (62 : UInt8)) = false := h2
      have g3 : (some b == some (61 : UInt8)) = false := h3
      unfold signB at hn h0 ⊢
      simp only [List.cons_append, List.nil_append, List.head?_cons, List.head?_nil, g1, g2, g3] at hn h0 ⊢
      simp at hn h0 ⊢
    | [c, d], _, _ => rfl
    | c :: d :: x :: l, hn, _ =>
      have := signB_two (c :: d :: x :: l)
      simp only [List.length_cons] at hn
      omega
  unfold tokSign
  rw [e1, hn, List.take_left' rfl, List.take_length]
theorem kind_app (hb : blankB b = true) (c : UInt8) (l : List UInt8) (h : (kindF c l).err = 0) (hs : (kindF c l).size = l.length) : kindF c (l ++ b :: m) = kindF c l := by
  unfold kindF at h hs ⊢
  by_cases h1 : (lowB c || upB c) = true
  · simp only [if_pos h1] at h hs ⊢; exact word_app hb l h hs
  simp only [if_neg h1] at h hs ⊢
  by_cases h2 : digB c = true
  · simp only [if_pos h2] at h hs ⊢; exact numT_app hb l h hs
  simp only [if_neg h2] at h hs ⊢
  by_cases h3 : (c == 34) = true
  · simp only [if_pos h3] at h hs ⊢; exact name_app l h hs
  simp only [if_neg h3] at h hs ⊢
  by_cases h4 : (c == 39) = true
  · simp only [if_pos h4] at h hs ⊢; exact text_app hb l h
  simp only [if_neg h4] at h hs ⊢
  exact sign_app hb l h hs
theorem tok_app (hb : blankB b = true) (l : List UInt8) (h : (tokL l).err = 0) (hs : (tokL l).size = l.length) : tokL (l ++ b :: m) = tokL l := by
  match l, h, hs with
  | [], h, _ => exact absurd h (by decide)
  | c :: l, h, hs => exact kind_app hb c (c :: l) h hs
end
end Go.Proofs.YtcmhnaanfkpheaaDoor

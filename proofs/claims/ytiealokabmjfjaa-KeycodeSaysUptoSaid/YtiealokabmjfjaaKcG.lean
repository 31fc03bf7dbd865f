/- Key bytes stand as the rows do; what stands behind a text. No walk. -/
import Derived.Test.YtiealokabmjfjaaKcF
namespace Go.Proofs.Ytiealokabmjfjaa
set_option linter.unusedVariables false
open Go.ChangeShapes Go.WideShapes Go.ChangeAt Go.RowKit

abbrev cb := Lib.compareBytes
theorem cb_same (c : UInt8) (l m : List UInt8) : cb (c :: l) (c :: m) = cb l m := by
  show Lib.compareBytes (c :: l) (c :: m) = _
  rw [Lib.compareBytes, if_neg (UInt8.lt_irrefl c), if_neg (UInt8.lt_irrefl c)]
theorem cb_lt {c d : UInt8} (h : c.toNat < d.toNat) (l m : List UInt8) : cb (c :: l) (d :: m) = -1 := by
  show Lib.compareBytes (c :: l) (d :: m) = _
  rw [Lib.compareBytes, if_pos (UInt8.lt_iff_toNat_lt.2 h)]
theorem cb_gt {c d : UInt8} (h : d.toNat < c.toNat) (l m : List UInt8) : cb (c :: l) (d :: m) = 1 := by
  show Lib.compareBytes (c :: l) (d :: m) = _
  rw [Lib.compareBytes, if_neg (fun h2 => by have := UInt8.lt_iff_toNat_lt.1 h2; omega), if_pos (UInt8.lt_iff_toNat_lt.2 h)]
theorem u8_cases (c d : UInt8) : c = d ∨ c.toNat < d.toNat ∨ d.toNat < c.toNat := by
  rcases Nat.lt_trichotomy c.toNat d.toNat with h | h | h
  · exact .inr (.inl h)
  · exact .inl (UInt8.toNat_inj.1 h)
  · exact .inr (.inr h)
theorem foldB_acc : ∀ (l : List UInt8) (z : Int), l.foldl stepB z = z * 256 ^ l.length + foldB l
  | [], z => by simp [foldB]
  | c :: l, z => by
    have h1 := foldB_acc l (stepB z c)
    have h2 := foldB_acc l (stepB 0 c)
    rw [List.foldl_cons, h1]
    unfold foldB at *
    rw [List.foldl_cons, h2, List.length_cons, Int.pow_succ]
    unfold stepB
    generalize (256 : Int) ^ l.length = B
    generalize List.foldl (fun z c => z * 256 + ↑c.toNat) 0 l = F at *
    rw [Int.add_mul, Int.add_mul, Int.mul_comm B 256, ← Int.mul_assoc]
    omega
theorem foldB_cons (c : UInt8) (l : List UInt8) : foldB (c :: l) = c.toNat * 256 ^ l.length + foldB l := by
  have := foldB_acc l (stepB 0 c)
  unfold foldB at *
  rw [List.foldl_cons, this]
  unfold stepB
  simp
theorem cb_fixed : ∀ (p q x y : List UInt8), p.length = q.length → cb (p ++ x) (q ++ y) = if foldB p = foldB q then cb x y else cmpI (foldB p) (foldB q)
  | [], [], x, y, _ => by simp
  | c :: p, d :: q, x, y, h => by
    have hl : p.length = q.length := by simpa using h
    have ih := cb_fixed p q x y hl
    have hp := foldB_range p.length p rfl
    have hq := foldB_range q.length q rfl
    rw [foldB_cons, foldB_cons, List.cons_append, List.cons_append, ← hl]
    rw [← hl] at hq
    generalize (256 : Int) ^ p.length = B at *
    rcases u8_cases c d with rfl | hlt | hlt
    · rw [cb_same, ih]
      by_cases e : foldB p = foldB q
      · rw [if_pos e, if_pos (by rw [e])]
      · rw [if_neg e, if_neg (by omega)]
        unfold cmpI
        split <;> split <;> (try split) <;> (try split) <;> omega
    · have h2 : (c.toNat : Int) * B + B ≤ d.toNat * B := by
        have : (c.toNat : Int) + 1 ≤ d.toNat := by omega
        have := Int.mul_le_mul_of_nonneg_right this (show (0 : Int) ≤ B by omega)
        rw [Int.add_mul, Int.one_mul] at this
        exact this
      rw [cb_lt hlt, if_neg (by omega)]
      unfold cmpI
      rw [if_pos (by omega)]
    · have h2 : (d.toNat : Int) * B + B ≤ c.toNat * B := by
        have : (d.toNat : Int) + 1 ≤ c.toNat := by omega
        have := Int.mul_le_mul_of_nonneg_right this (show (0 : Int) ≤ B by omega)
        rw [Int.add_mul, Int.one_mul] at this
        exact this
      rw [cb_gt hlt, if_neg (by omega)]
      unfold cmpI
      rw [if_neg (by omega), if_pos (by omega)]
theorem zero_lt {c : UInt8} (h : c ≠ 0) : (0 : UInt8).toNat < c.toNat := by
  rcases u8_cases 0 c with e | e | e
  · exact absurd e.symm h
  · exact e
  · have : (0 : UInt8).toNat = 0 := rfl
    omega
theorem cb_term : ∀ (s t x y : List UInt8), (∀ b ∈ s, b ≠ 0) → (∀ b ∈ t, b ≠ 0) → cb (s ++ 0 :: x) (t ++ 0 :: y) = if s = t then cb x y else cb s t
  | [], [], x, y, _, _ => by rw [if_pos rfl]; exact cb_same 0 x y
  | [], d :: t, x, y, _, h => by
    rw [if_neg (by simp)]
    exact cb_lt (zero_lt (h d List.mem_cons_self)) _ _
  | c :: s, [], x, y, h, _ => by
    rw [if_neg (by simp)]
    exact cb_gt (zero_lt (h c List.mem_cons_self)) _ _
  | c :: s, d :: t, x, y, h1, h2 => by
    have ih := cb_term s t x y (fun b hb => h1 b (List.mem_cons_of_mem _ hb)) (fun b hb => h2 b (List.mem_cons_of_mem _ hb))
    rw [List.cons_append, List.cons_append]
    rcases u8_cases c d with rfl | hlt | hlt
    · rw [cb_same, ih, cb_same]
      simp
    · rw [cb_lt hlt, cb_lt hlt, if_neg (by intro e; injection e with e _; rw [e] at hlt; omega)]
    · rw [cb_gt hlt, cb_gt hlt, if_neg (by intro e; injection e with e _; rw [e] at hlt; omega)]
theorem cmpT_empty : cmpT .empty .empty = 0 := rfl
theorem key8_fold (n : Int) (h : inN n = true) : foldB (key8 n) = n + 9223372036854775808 := by
  have := key8_num n h
  unfold numK at this
  omega
theorem cb_enc {a b : ValV} (ha : rightP a = true) (hb : rightP b = true) (x y : List UInt8) : cb (encK a ++ x) (encK b ++ y) = if cmpV a b = 0 then cb x y else cmpV a b := by
  rcases right_kinds ha with rfl | rfl | rfl | ⟨n, rfl, hn⟩ | ⟨s, rfl, hs⟩ <;> rcases right_kinds hb with rfl | rfl | rfl | ⟨m, rfl, hm⟩ | ⟨t, rfl, ht⟩
  all_goals first
    | rfl
    | skip
  · rw [ek_num, ek_num, List.cons_append, List.cons_append, cb_same, cb_fixed _ _ _ _ (by rw [key8_len, key8_len]), key8_fold n hn, key8_fold m hm]
    have hv : cmpV ⟨2, n, .empty⟩ ⟨2, m, .empty⟩ = if cmpI n m = 0 then 0 else cmpI n m := rfl
    rw [hv]
    by_cases e : n = m
    · subst e
      have : cmpI n n = 0 := cmpI_zero.2 rfl
      rw [if_pos rfl, this]
      rfl
    · have h0 : cmpI n m ≠ 0 := fun h => e (cmpI_zero.1 h)
      rw [if_neg (by omega), if_neg h0, if_neg h0]
      unfold cmpI
      split <;> split <;> (try split) <;> (try split) <;> omega
  · rw [ek_text, ek_text, List.cons_append, List.cons_append, cb_same, List.append_assoc, List.append_assoc, List.singleton_append, List.singleton_append, cb_term _ _ _ _ (no_zero hs) (no_zero ht)]
    have hv : cmpV ⟨3, 0, s⟩ ⟨3, 0, t⟩ = cmpT s t := rfl
    rw [hv]
    by_cases e : s.data.toList = t.data.toList
    · have : cmpT s t = 0 := cb_zero.2 e
      rw [if_pos e, if_pos this]
    · have : cmpT s t ≠ 0 := fun h => e (cb_zero.1 h)
      rw [if_neg e, if_neg this]
      rfl
theorem enc_ne (v : ValV) (l : List UInt8) : ∃ c m, encK v ++ l = c :: m := by
  unfold encK
  split
  · exact ⟨_, _, rfl⟩
  · split
    · exact ⟨_, _, rfl⟩
    · split
      · exact ⟨_, _, rfl⟩
      · exact ⟨_, _, rfl⟩
theorem rises : ∀ (r s : List ValV), r.all rightP = true → s.all rightP = true → cb (bytesK r) (bytesK s) = cmpR r s
  | [], [], _, _ => rfl
  | [], v :: s, _, _ => by
    obtain ⟨c, m, e⟩ := enc_ne v (bytesK s)
    rw [bytesK_cons, e]
    rfl
  | v :: r, [], _, _ => by
    obtain ⟨c, m, e⟩ := enc_ne v (bytesK r)
    rw [bytesK_cons, e]
    rfl
  | v :: r, u :: s, hr, hs => by
    rw [List.all_cons, Bool.and_eq_true] at hr hs
    rw [bytesK_cons, bytesK_cons, cb_enc hr.1 hs.1, rises r s hr.2 hs.2]
    rfl
theorem inc_nat {c : UInt8} (h : c ≠ 255) : (c + 1).toNat = c.toNat + 1 := by
  have h1 := c.toNat_lt
  have h2 : c.toNat ≠ 255 := fun e => h (UInt8.toNat_inj.1 e)
  rw [UInt8.toNat_add]
  show (c.toNat + 1) % 256 = _
  omega
theorem after_gt : ∀ (s a : List UInt8), afterK s = some a → cb a s = 1
  | [], _, h => by cases h
  | c :: s, a, h => by
    rw [afterK] at h
    cases hs : afterK s with
    | some m =>
      rw [hs] at h
      injection h with h
      subst h
      rw [cb_same]
      exact after_gt s m hs
    | none =>
      rw [hs] at h
      simp only at h
      split at h
      · cases h
      · rename_i hc
        injection h with h
        subst h
        exact cb_gt (by rw [inc_nat hc]; omega) _ _
theorem cb_nil_ge (t : List UInt8) : 0 ≤ cb t [] := by
  match t with
  | [] => decide
  | _ :: _ => show (0 : Int) ≤ 1; decide
theorem begins_iff : ∀ (s t : List UInt8), s <+: t ↔ (0 ≤ cb t s ∧ ∀ a, afterK s = some a → cb t a < 0)
  | [], t => ⟨fun _ => ⟨cb_nil_ge t, fun a h => by cases h⟩, fun _ => List.nil_prefix⟩
  | c :: s, [] => by
    constructor
    · intro h; exact absurd (List.prefix_nil.1 h) (by simp)
    · intro h; exact absurd h.1 (by show ¬ (0 : Int) ≤ -1; decide)
  | c :: s, d :: t => by
    have ih := begins_iff s t
    rw [List.cons_prefix_cons, afterK]
    rcases u8_cases d c with rfl | hlt | hlt
    · rw [cb_same]
      cases hs : afterK s with
      | some m =>
        rw [hs] at ih
        simp only [true_and]
        rw [ih]
        constructor
        · rintro ⟨h1, h2⟩
          refine ⟨h1, fun a ha => ?_⟩
          injection ha with ha
          subst ha
          rw [cb_same]
          exact h2 m rfl
        · rintro ⟨h1, h2⟩
          refine ⟨h1, fun a ha => ?_⟩
          injection ha with ha
          subst ha
          have := h2 (d :: m) rfl
          rwa [cb_same] at this
      | none =>
        rw [hs] at ih
        simp only [true_and]
        rw [ih]
        constructor
        · rintro ⟨h1, _⟩
          refine ⟨h1, fun a ha => ?_⟩
          split at ha
          · cases ha
          · rename_i hc
            injection ha with ha
            subst ha
            rw [cb_lt (by rw [inc_nat hc]; omega)]
            decide
        · rintro ⟨h1, _⟩
          exact ⟨h1, fun a ha => by cases ha⟩
    · rw [cb_lt hlt]
      constructor
      · rintro ⟨e, _⟩; rw [e] at hlt; omega
      · rintro ⟨h, _⟩; exact absurd h (by decide)
    · constructor
      · rintro ⟨e, _⟩; rw [e] at hlt; omega
      · rintro ⟨_, h2⟩
        exfalso
        cases hs : afterK s with
        | some m =>
          rw [hs] at h2
          have := h2 (c :: m) rfl
          rw [cb_gt hlt] at this
          omega
        | none =>
          rw [hs] at h2
          simp only at h2
          by_cases hc : c = 255
          · subst hc
            have := d.toNat_lt
            have h255 : (255 : UInt8).toNat = 255 := rfl
            omega
          · rw [if_neg hc] at h2
            have h3 := h2 [c + 1] rfl
            rcases u8_cases d (c + 1) with e | e | e
            · rw [e, cb_same] at h3
              have := cb_nil_ge t
              omega
            · rw [inc_nat hc] at e; omega
            · rw [cb_gt e] at h3; omega
end Go.Proofs.Ytiealokabmjfjaa

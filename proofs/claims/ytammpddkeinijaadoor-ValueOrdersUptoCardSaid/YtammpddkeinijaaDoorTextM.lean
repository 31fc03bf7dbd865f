/- Two right values have one text just if they are the same. No walk. -/
import Derived.Test.YtammpddkeinijaaDoorEqV
import Derived.Lib.ItoaMem
namespace Go.Proofs.YtammpddkeinijaaDoor
set_option linter.unusedVariables false

def valD (l : List UInt8) : Nat := l.foldl (fun n c => 10 * n + (c.toNat - 48)) 0
theorem valD_snoc (l : List UInt8) (c : UInt8) : valD (l ++ [c]) = 10 * valD l + (c.toNat - 48) := by simp [valD]
theorem byte48 (k : Nat) (h : k < 10) : (UInt8.ofNat (48 + k)).toNat = 48 + k := by
  rw [UInt8.toNat_ofNat']
  omega
theorem dec_step (u : Nat) (h : ¬ u < 10) : Lib.decDigits u = Lib.decDigits (u / 10) ++ [UInt8.ofNat (48 + u % 10)] := by rw [Lib.decDigits, dif_neg h]
theorem valD_dec : ∀ u : Nat, valD (Lib.decDigits u) = u := by
  intro u
  induction u using Nat.strongRecOn with
  | _ u ih =>
    by_cases h : u < 10
    · rw [Lib.decDigits_one h]
      simp only [valD, List.foldl_cons, List.foldl_nil]
      rw [byte48 u h]
      omega
    · rw [dec_step u h, valD_snoc, ih (u / 10) (by omega), byte48 _ (by omega)]
      omega
theorem dec_head : ∀ u : Nat, ∃ c l, Lib.decDigits u = c :: l ∧ 48 ≤ c.toNat ∧ c.toNat ≤ 57 := by
  intro u
  induction u using Nat.strongRecOn with
  | _ u ih =>
    by_cases h : u < 10
    · rw [Lib.decDigits_one h]
      exact ⟨_, _, rfl, by rw [byte48 u h]; omega, by rw [byte48 u h]; omega⟩
    · rw [dec_step u h]
      obtain ⟨c, l, e, h1, h2⟩ := ih (u / 10) (by omega)
      rw [e]
      exact ⟨c, _, rfl, h1, h2⟩
theorem itoa_head (n : Int) : ∃ c l, Lib.itoa n = c :: l ∧ (c.toNat = 45 ∨ (48 ≤ c.toNat ∧ c.toNat ≤ 57)) := by
  unfold Lib.itoa
  by_cases h : n < 0
  · rw [if_pos h]
    exact ⟨_, _, rfl, .inl rfl⟩
  · rw [if_neg h]
    obtain ⟨c, l, e, h1, h2⟩ := dec_head n.toNat
    exact ⟨c, l, e, .inr ⟨h1, h2⟩⟩
theorem itoa_inj (n m : Int) (h : Lib.itoa n = Lib.itoa m) : n = m := by
  have key : ∀ u v : Nat, Lib.decDigits u = Lib.decDigits v → u = v := fun u v e => by rw [← valD_dec u, e, valD_dec]
  unfold Lib.itoa at h
  by_cases h1 : n < 0
  · rw [if_pos h1] at h
    by_cases h2 : m < 0
    · rw [if_pos h2] at h
      have := key _ _ (List.cons.inj h).2
      omega
    · rw [if_neg h2] at h
      obtain ⟨c, l, e, g1, g2⟩ := dec_head m.toNat
      rw [e] at h
      have := (List.cons.inj h).1
      rw [← this] at g1
      exact absurd g1 (by decide)
  · rw [if_neg h1] at h
    by_cases h2 : m < 0
    · rw [if_pos h2] at h
      obtain ⟨c, l, e, g1, g2⟩ := dec_head n.toNat
      rw [e] at h
      have := (List.cons.inj h).1
      rw [this] at g1
      exact absurd g1 (by decide)
    · rw [if_neg h2] at h
      have := key _ _ h
      omega
theorem quoteL_inj : ∀ l m : List UInt8, quoteL l = quoteL m → l = m
  | [], [], _ => rfl
  | [], d :: m, h => by simp only [quoteL] at h; split at h <;> cases h
  | c :: l, [], h => by simp only [quoteL] at h; split at h <;> cases h
  | c :: l, d :: m, h => by
    simp only [quoteL] at h
    by_cases h1 : c = 39
    · rw [if_pos h1] at h
      by_cases h2 : d = 39
      · rw [if_pos h2] at h
        rw [h1, h2, quoteL_inj l m (by simpa using h)]
      · rw [if_neg h2] at h
        exact absurd (List.cons.inj h).1.symm h2
    · rw [if_neg h1] at h
      by_cases h2 : d = 39
      · rw [if_pos h2] at h
        exact absurd (List.cons.inj h).1 h1
      · rw [if_neg h2] at h
        rw [(List.cons.inj h).1, quoteL_inj l m (List.cons.inj h).2]
abbrev eS : ByteArray := { data := #[] }
theorem right_form (v : ValV) (h : rightV v.kind v.num v.str = true) : v = ⟨0, 0, eS⟩ ∨ v = ⟨1, 0, eS⟩ ∨ v = ⟨1, 1, eS⟩ ∨ (∃ n, v = ⟨2, n, eS⟩) ∨ ∃ s, v = ⟨3, 0, s⟩ := by
  obtain ⟨k, n, s⟩ := v
  simp only at h
  unfold rightV at h
  by_cases h0 : k = 0
  · rw [if_pos h0, Bool.and_eq_true] at h
    rw [h0, of_decide_eq_true h.1, empty_of h.2]
    exact .inl rfl
  · rw [if_neg h0] at h
    by_cases h1 : k = 1
    · rw [if_pos h1, Bool.and_eq_true, Bool.or_eq_true] at h
      rw [h1, empty_of h.2]
      rcases h.1 with g | g
      · rw [of_decide_eq_true g]; exact .inr (.inl rfl)
      · rw [of_decide_eq_true g]; exact .inr (.inr (.inl rfl))
    · rw [if_neg h1] at h
      by_cases h2 : k = 2
      · rw [if_pos h2, Bool.and_eq_true] at h
        rw [h2, empty_of h.2]
        exact .inr (.inr (.inr (.inl ⟨n, rfl⟩)))
      · rw [if_neg h2] at h
        by_cases h3 : k = 3
        · rw [if_pos h3, Bool.and_eq_true] at h
          rw [h3, of_decide_eq_true h.1]
          exact .inr (.inr (.inr (.inr ⟨s, rfl⟩)))
        · rw [if_neg h3] at h
          cases h
/-- The first byte. -/
def hdT (v : ValV) : Option UInt8 := (textV v).data.toList.head?
theorem textN (n : Int) : textV ⟨2, n, eS⟩ = ⟨(Lib.itoa n).toArray⟩ := by simp [textV]
theorem textS (s : ByteArray) : textV ⟨3, 0, s⟩ = quoteP s := by simp [textV]
theorem hd0 : hdT ⟨0, 0, eS⟩ = some 110 := rfl
theorem hdF : hdT ⟨1, 0, eS⟩ = some 102 := rfl
theorem hdY : hdT ⟨1, 1, eS⟩ = some 116 := rfl
theorem hdN (n : Int) : ∃ c, hdT ⟨2, n, eS⟩ = some c ∧ (c.toNat = 45 ∨ (48 ≤ c.toNat ∧ c.toNat ≤ 57)) := by
  obtain ⟨c, l, e, h⟩ := itoa_head n
  refine ⟨c, ?_, h⟩
  unfold hdT
  rw [textN]
  simp [e]
theorem hdS (s : ByteArray) : hdT ⟨3, 0, s⟩ = some 39 := rfl
theorem text_inj (a b : ValV) (ha : rightV a.kind a.num a.str = true) (hb : rightV b.kind b.num b.str = true) (h : textV a = textV b) : a = b := by
  have hh : hdT a = hdT b := by unfold hdT; rw [h]
  rcases right_form a ha with rfl | rfl | rfl | ⟨n, rfl⟩ | ⟨s, rfl⟩ <;> rcases right_form b hb with rfl | rfl | rfl | ⟨m, rfl⟩ | ⟨t, rfl⟩
  all_goals first
    | rfl
    | (simp only [hd0, hdF, hdY, hdS] at hh; exact absurd hh (by decide))
    | (obtain ⟨c, e, g⟩ := hdN ‹Int›
       simp only [hd0, hdF, hdY, hdS, e, Option.some.injEq] at hh
       subst hh
       exact absurd g (by decide))
    | skip
  · have e1 : Lib.itoa n = Lib.itoa m := by
      rw [textN, textN] at h
      have := congrArg (fun x => x.data.toList) h
      simpa using this
    rw [itoa_inj n m e1]
  · have e1 : quoteP s = quoteP t := by
      rw [textS, textS] at h
      exact h
    unfold quoteP at e1
    have e2 := congrArg (fun x => x.data.toList) e1
    simp only [List.cons.injEq, true_and] at e2
    have e3 := quoteL_inj _ _ (List.append_cancel_right e2)
    rw [ByteArray.ext (Array.toList_inj.1 e3)]
theorem text_ne (v : ValV) : textV v ≠ { data := #[] } := by
  intro h
  have h2 : (textV v).data.toList = [] := by rw [h]
  unfold textV at h2
  split at h2
  · split at h2 <;> cases h2
  · split at h2
    · obtain ⟨c, l, e, _⟩ := itoa_head v.num
      simp [e] at h2
    · split at h2
      · simp [quoteP] at h2
      · cases h2
end Go.Proofs.YtammpddkeinijaaDoor

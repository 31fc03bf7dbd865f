/- Key bytes are told again. No walk. -/
import Derived.Test.YtiealokabmjfjaaKcE
import Derived.Lib.IndexLaws
namespace Go.Proofs.Ytiealokabmjfjaa
set_option linter.unusedVariables false
open Go.ChangeShapes Go.WideShapes Go.ChangeAt Go.RowKit

theorem key8_num (n : Int) (h : inN n = true) : numK (key8 n) = n := by
  have := inN_iff.1 h
  unfold numK key8 word8
  rw [foldB_put]
  have h3 : (256 : Int) ^ 8 = 18446744073709551616 := by decide
  rw [h3]
  omega
theorem num_key8 (l : List UInt8) (h : l.length = 8) : key8 (numK l) = l := by
  unfold key8 numK word8
  rw [show foldB l - 9223372036854775808 + 9223372036854775808 = foldB l by omega]
  exact put_foldB 8 l h
theorem index_first : ∀ (l post : List UInt8), (∀ b ∈ l, b ≠ 0) → Lib.indexByte (l ++ 0 :: post) 0 = l.length
  | [], _, _ => rfl
  | b :: l, post, h => by
    have ih := index_first l post (fun c hc => h c (List.mem_cons_of_mem _ hc))
    have hb : (b == 0) = false := by simpa using h b List.mem_cons_self
    rw [List.cons_append, Lib.indexByte, hb, ih, List.length_cons]
    have h2 : ((l.length : Int) == -1) = false := by rw [beq_eq_false_iff_ne]; omega
    simp [h2]
theorem no_zero {s : ByteArray} (h : plainS s = true) : ∀ b ∈ s.data.toList, b ≠ 0 := by
  intro b hb e
  have := List.all_eq_true.1 (plain_iff.1 h).2 b hb
  subst e
  revert this
  decide
theorem first_enc {v : ValV} (h : rightP v = true) (post : List UInt8) : firstN (encK v ++ post) = (v, (encK v).length) := by
  rcases right_kinds h with rfl | rfl | rfl | ⟨n, rfl, hn⟩ | ⟨s, rfl, hs⟩
  · rfl
  · rfl
  · rfl
  · have e1 : (key8 n ++ post).take 8 = key8 n := by rw [← key8_len n]; simp
    rw [ek_num, List.cons_append, firstN_cons]
    rw [if_neg (by decide), if_neg (by decide), if_pos (by decide), if_pos (by rw [List.length_append, key8_len]; omega), e1, key8_num n hn, List.length_cons, key8_len]
  · have hi : Lib.indexByte (s.data.toList ++ [0] ++ post) 0 = s.size := by
      rw [List.append_assoc, List.singleton_append, index_first _ _ (no_zero hs), str_len]
    have ht : (s.data.toList ++ [0] ++ post).take s.size = s.data.toList := by rw [List.append_assoc, ← str_len, List.take_left]
    rw [ek_text, List.cons_append, firstN_cons]
    rw [if_neg (by decide), if_neg (by decide), if_neg (by decide), if_pos (by decide), hi, if_neg (by omega), Int.toNat_natCast, ht]
    have : strL s.data.toList = s := str_eta s
    rw [this, List.length_cons, List.length_append, str_len]
    rfl
theorem first_back {l : List UInt8} (hn : (firstN l).2 ≠ 0) (hv : rightP (firstN l).1 = true) : l = encK (firstN l).1 ++ l.drop (firstN l).2 := by
  match l with
  | [] => exact absurd rfl hn
  | k :: r =>
    have kb : ∀ m : Nat, k.toNat = m → k = UInt8.ofNat m := by
      intro m e
      rw [← e, UInt8.ofNat_toNat]
    rw [firstN_cons] at hn hv ⊢
    split at hn <;> rename_i h0
    · rw [if_pos h0] at hv ⊢
      rw [kb 0 h0]
      rfl
    · rw [if_neg h0] at hv ⊢
      split at hn <;> rename_i h1
      · rw [if_pos h1] at hv ⊢
        match r with
        | [] => exact absurd rfl hn
        | b :: r =>
          rw [kb 1 h1]
          show _ = [1, byteOf (b.toNat : Int)] ++ r
          rw [byteOf_nat]
          rfl
      · rw [if_neg h1] at hv ⊢
        split at hn <;> rename_i h2
        · rw [if_pos h2] at hv ⊢
          split at hn <;> rename_i h8
          · rw [if_pos h8]
            show k :: r = (2 :: key8 (numK (r.take 8))) ++ r.drop 8
            rw [num_key8 _ (by rw [List.length_take]; omega), List.cons_append, List.take_append_drop, kb 2 h2]
            rfl
          · exact absurd rfl hn
        · rw [if_neg h2] at hv ⊢
          split at hn <;> rename_i h3
          · rw [if_pos h3] at hv ⊢
            split at hn <;> rename_i hneg
            · exact absurd rfl hn
            · rw [if_neg hneg]
              obtain ⟨j, hj⟩ : ∃ j : Nat, Lib.indexByte r 0 = j := ⟨(Lib.indexByte r 0).toNat, by omega⟩
              rw [hj, Int.toNat_natCast]
              have h5 := (Lib.indexByte_some hj).1
              show k :: r = (3 :: ((r.take j) ++ [0])) ++ r.drop (j + 1)
              rw [kb 3 h3, List.cons_append, List.append_assoc, List.singleton_append, ← drop_at h5, List.take_append_drop]
              rfl
          · exact absurd rfl hn
theorem getK_put : ∀ (r : List ValV) (f : Nat), r.all rightP = true → (bytesK r).length ≤ f → getK f (bytesK r) = some r
  | [], f, _, _ => by cases f <;> rfl
  | v :: r, f, h, hf => by
    rw [List.all_cons, Bool.and_eq_true] at h
    have h1 := (ek_len h.1).1
    rw [bytesK_cons, List.length_append] at hf
    obtain ⟨f, rfl⟩ : ∃ f', f = f' + 1 := ⟨f - 1, by omega⟩
    have hfe := first_enc h.1 (bytesK r)
    rw [bytesK_cons]
    obtain ⟨c, l, hcl⟩ : ∃ c l, encK v ++ bytesK r = c :: l := by
      match hx : encK v ++ bytesK r with
      | [] => have := congrArg List.length hx; rw [List.length_append] at this; simp at this; rw [this.1] at h1; simp at h1
      | c :: l => exact ⟨c, l, rfl⟩
    rw [hcl] at hfe ⊢
    rw [getK, hfe]
    rw [if_neg (by rintro (e | e); (· simp only at e; omega); (· simp only at e; rw [h.1] at e; cases e))]
    simp only
    rw [← hcl, List.drop_left, getK_put r f h.2 (by omega)]
    rfl
theorem getK_back : ∀ (f : Nat) (l : List UInt8) (r : List ValV), getK f l = some r → r.all rightP = true ∧ l = bytesK r
  | f, [], r, h => by
    have : getK f [] = some [] := by cases f <;> rfl
    rw [this] at h
    injection h with h
    subst h
    exact ⟨rfl, rfl⟩
  | 0, _ :: _, r, h => by cases h
  | f + 1, c :: l, r, h => by
    rw [getK] at h
    split at h
    · cases h
    · rename_i hc
      have h0 : (firstN (c :: l)).2 ≠ 0 := fun e => hc (.inl e)
      have hr : rightP (firstN (c :: l)).1 = true := by
        cases hx : rightP (firstN (c :: l)).1
        · exact absurd (.inr hx) hc
        · rfl
      cases hg : getK f ((c :: l).drop (firstN (c :: l)).2) with
      | none => rw [hg] at h; cases h
      | some r' =>
        rw [hg] at h
        injection h with h
        subst h
        obtain ⟨h1, h2⟩ := getK_back f _ r' hg
        refine ⟨by rw [List.all_cons, hr, h1]; rfl, ?_⟩
        rw [bytesK_cons, ← h2]
        exact first_back h0 hr
theorem bytesK_ge : ∀ r : List ValV, r.all rightP = true → r.length ≤ (bytesK r).length
  | [], _ => Nat.zero_le _
  | v :: r, h => by
    rw [List.all_cons, Bool.and_eq_true] at h
    have h1 := bytesK_ge r h.2
    have h2 := (ek_len h.1).1
    rw [bytesK_cons, List.length_append, List.length_cons]
    omega
theorem bytesK_inj {r s : List ValV} (hr : r.all rightP = true) (hs : s.all rightP = true) : bytesK r = bytesK s ↔ r = s := by
  constructor
  · intro h
    have h1 := getK_put r _ hr (Nat.le_refl _)
    rw [h, getK_put s _ hs (Nat.le_refl _)] at h1
    injection h1 with h1
    exact h1.symm
  · intro h; rw [h]
end Go.Proofs.Ytiealokabmjfjaa

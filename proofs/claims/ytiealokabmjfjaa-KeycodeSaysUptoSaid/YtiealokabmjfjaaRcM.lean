/- Rows' bytes and what bytes tell. No walk. -/
import Derived.Test.YtiealokabmjfjaaRights
import Derived.Test.YtiealokabmjfjaaBytes
import Derived.Test.YtiealokabmjfjaaRowP
namespace Go.Proofs.Ytiealokabmjfjaa
set_option linter.unusedVariables false
open Go.ChangeShapes Go.WideShapes Go.ChangeAt Go.RowKit

def encV (v : ValV) : List UInt8 := if v.kind = 0 then [0] else if v.kind = 1 then [1, byteOf v.num] else if v.kind = 2 then 2 :: word8 v.num else 3 :: byteOf v.str.size :: v.str.data.toList
def sizeV (v : ValV) : Int := if v.kind = 1 then 2 else if v.kind = 2 then 9 else if v.kind = 3 then 2 + v.str.size else 1
/-- What is told. -/
inductive Got | bad (e : Int) | val (v : ValV) (rest : List UInt8)
def textG (n : Nat) (l : List UInt8) : Got := if (l.take n).all okByte then (if l.length < n then .bad 3 else .val ⟨3, 0, ⟨(l.take n).toArray⟩⟩ (l.drop n)) else .bad 2
def boolG : List UInt8 → Got
  | [] => .bad 3
  | b :: r => if b.toNat ≤ 1 then .val ⟨1, b.toNat, .empty⟩ r else .bad 2
def intG (l : List UInt8) : Got := if l.length < 8 then .bad 3 else if inN (numB (l.take 8)) then .val ⟨2, numB (l.take 8), .empty⟩ (l.drop 8) else .bad 2
def strG : List UInt8 → Got
  | [] => .bad 3
  | n :: r => if n.toNat ≤ 100 then textG n.toNat r else .bad 2
def takeG : List UInt8 → Got
  | [] => .bad 3
  | k :: l => if k.toNat = 0 then .val ⟨0, 0, .empty⟩ l else if k.toNat = 1 then boolG l else if k.toNat = 2 then intG l else if k.toNat = 3 then strG l else .bad 2
theorem takeG_cons (k : UInt8) (l : List UInt8) : takeG (k :: l) = if k.toNat = 0 then .val ⟨0, 0, .empty⟩ l else if k.toNat = 1 then boolG l else if k.toNat = 2 then intG l else if k.toNat = 3 then strG l else .bad 2 := rfl
theorem boolG_cons (b : UInt8) (r : List UInt8) : boolG (b :: r) = if b.toNat ≤ 1 then .val ⟨1, b.toNat, .empty⟩ r else .bad 2 := rfl
theorem strG_cons (n : UInt8) (r : List UInt8) : strG (n :: r) = if n.toNat ≤ 100 then textG n.toNat r else .bad 2 := rfl
theorem empty_str {s : ByteArray} (h : s.toList.isEmpty = true) : s = .empty := by
  have h2 := ByteArray.toList_eq s
  have h3 : s.data.toList = [] := by rw [← h2]; simpa using h
  apply ByteArray.ext
  simpa using h3
theorem inN_iff {n : Int} : inN n = true ↔ -1000000000000000 ≤ n ∧ n ≤ 1000000000000000 := by unfold inN; simp
theorem right_kinds {v : ValV} (h : rightP v = true) : v = ⟨0, 0, .empty⟩ ∨ v = ⟨1, 0, .empty⟩ ∨ v = ⟨1, 1, .empty⟩ ∨ (∃ n, v = ⟨2, n, .empty⟩ ∧ inN n = true) ∨ ∃ s, v = ⟨3, 0, s⟩ ∧ plainS s = true := by
  obtain ⟨k, n, s⟩ := v
  unfold rightP at h
  rcases right_cases k n s with ⟨rfl, e⟩ | ⟨rfl, e⟩ | ⟨rfl, e⟩ | ⟨rfl, e⟩ | ⟨_, _, _, _, e⟩
  all_goals rw [e] at h; try simp only [Bool.and_eq_true, Bool.or_eq_true, decide_eq_true_eq] at h
  · obtain ⟨rfl, h⟩ := h
    rw [empty_str h]; simp
  · obtain ⟨h0, h⟩ := h
    rw [empty_str h]
    rcases h0 with rfl | rfl <;> simp
  · obtain ⟨h0, h⟩ := h
    rw [empty_str h]; simp [h0]
  · obtain ⟨rfl, h⟩ := h
    simp [h]
  · cases h
theorem plain_iff {s : ByteArray} : plainS s = true ↔ s.size ≤ 100 ∧ s.data.toList.all okByte = true := by unfold plainS; simp
theorem enc_null : encV ⟨0, 0, .empty⟩ = [0] := rfl
theorem enc_false : encV ⟨1, 0, .empty⟩ = [1, 0] := by decide
theorem enc_true : encV ⟨1, 1, .empty⟩ = [1, 1] := by decide
theorem enc_num (n : Int) : encV ⟨2, n, .empty⟩ = 2 :: word8 n := rfl
theorem enc_text (s : ByteArray) : encV ⟨3, 0, s⟩ = 3 :: byteOf s.size :: s.data.toList := rfl
theorem byteOf_small {n : Nat} (h : n ≤ 100) : (byteOf (n : Int)).toNat = n := by
  unfold byteOf
  rw [UInt8.toNat_ofNat']
  omega
theorem enc_len {v : ValV} (h : rightP v = true) : ((encV v).length : Int) = sizeV v := by
  rcases right_kinds h with rfl | rfl | rfl | ⟨n, rfl, _⟩ | ⟨s, rfl, _⟩
  · rfl
  · rfl
  · rfl
  · rw [enc_num, List.length_cons, word8_len]; rfl
  · rw [enc_text, List.length_cons, List.length_cons, str_len]
    show _ = 2 + (s.size : Int)
    omega
theorem str_eta (s : ByteArray) : (⟨s.data.toList.toArray⟩ : ByteArray) = s := by rcases s with ⟨⟨l⟩⟩; rfl
theorem text_put {s : ByteArray} (h : plainS s = true) (post : List UInt8) : textG s.size (s.data.toList ++ post) = .val ⟨3, 0, s⟩ post := by
  have hl := str_len s
  have ht : (s.data.toList ++ post).take s.size = s.data.toList := by rw [← hl]; simp
  have hd : (s.data.toList ++ post).drop s.size = post := by rw [← hl]; simp
  unfold textG
  rw [ht, hd, if_pos (plain_iff.1 h).2, if_neg (by rw [List.length_append]; omega), str_eta]
/-- What is put is told again. -/
theorem take_enc {v : ValV} (h : rightP v = true) (post : List UInt8) : takeG (encV v ++ post) = .val v post := by
  rcases right_kinds h with rfl | rfl | rfl | ⟨n, rfl, hn⟩ | ⟨s, rfl, hs⟩
  · rfl
  · rfl
  · rfl
  · have hr := inN_iff.1 hn
    have hw := word8_len n
    have e1 : (word8 n ++ post).take 8 = word8 n := by rw [← hw]; simp
    have e2 : (word8 n ++ post).drop 8 = post := by rw [← hw]; simp
    show intG (word8 n ++ post) = _
    unfold intG
    rw [e1, e2, num_word n (by omega) (by omega), if_neg (by rw [List.length_append]; omega), if_pos hn]
  · have hp := (plain_iff.1 hs).1
    show strG (byteOf s.size :: (s.data.toList ++ post)) = _
    rw [strG_cons, byteOf_small hp, if_pos hp, text_put hs]
theorem textG_val {n : Nat} {l : List UInt8} {v : ValV} {r : List UInt8} (h : textG n l = .val v r) : v = ⟨3, 0, ⟨(l.take n).toArray⟩⟩ ∧ l = l.take n ++ r ∧ (l.take n).all okByte = true ∧ (l.take n).length = n := by
  unfold textG at h
  split at h
  · rename_i ho
    split at h
    · cases h
    · rename_i hlt
      injection h with e1 e2
      refine ⟨e1.symm, ?_, ho, by rw [List.length_take]; omega⟩
      rw [← e2, List.take_append_drop]
  · cases h
/-- What is told has just these bytes. -/
theorem take_back {l : List UInt8} {v : ValV} {r : List UInt8} (h : takeG l = .val v r) : rightP v = true ∧ l = encV v ++ r := by
  match l, h with
  | k :: l, h =>
    rw [takeG_cons] at h
    have kb : ∀ m : Nat, m < 256 → k.toNat = m → k = UInt8.ofNat m := by
      intro m _ e
      rw [← e, UInt8.ofNat_toNat]
    split at h
    · rename_i h0
      injection h with e1 e2
      subst e1 e2
      rw [kb 0 (by omega) h0]
      exact ⟨by decide +kernel, rfl⟩
    · split at h
      · rename_i h1
        rw [kb 1 (by omega) h1]
        match l, h with
        | b :: l', h =>
          rw [boolG_cons] at h
          split at h
          · rename_i hb
            injection h with e1 e2
            subst e1 e2
            have hb2 : b = 0 ∨ b = 1 := by
              have : b.toNat = 0 ∨ b.toNat = 1 := by omega
              rcases this with h | h
              · exact .inl (UInt8.toNat_inj.1 h)
              · exact .inr (UInt8.toNat_inj.1 h)
            rcases hb2 with rfl | rfl <;> exact ⟨by decide +kernel, rfl⟩
          · cases h
      · split at h
        · rename_i h2
          rw [kb 2 (by omega) h2]
          unfold intG at h
          split at h
          · cases h
          · rename_i hl
            split at h
            · rename_i hn
              injection h with e1 e2
              subst e1 e2
              refine ⟨?_, ?_⟩
              · unfold rightP rightV
                simp [hn]
              · rw [enc_num, word_num _ (by rw [List.length_take]; omega)]
                show UInt8.ofNat 2 :: l = 2 :: (l.take 8 ++ l.drop 8)
                rw [List.take_append_drop]
                rfl
            · cases h
        · split at h
          · rename_i h3
            rw [kb 3 (by omega) h3]
            match l, h with
            | n :: l', h =>
              rw [strG_cons] at h
              split at h
              · rename_i hn
                obtain ⟨rfl, e2, e3, e4⟩ := textG_val h
                refine ⟨?_, ?_⟩
                · have hp : plainS ⟨(l'.take n.toNat).toArray⟩ = true := plain_iff.2 ⟨by show (l'.take n.toNat).toArray.size ≤ 100; rw [List.size_toArray]; omega, e3⟩
                  unfold rightP rightV
                  simp [hp]
                · rw [enc_text]
                  have : byteOf ((⟨(l'.take n.toNat).toArray⟩ : ByteArray).size : Int) = n := by
                    have e : (⟨(l'.take n.toNat).toArray⟩ : ByteArray).size = n.toNat := by show (l'.take n.toNat).toArray.size = _; rw [List.size_toArray]; exact e4
                    rw [e, byteOf_nat]
                  rw [this]
                  show UInt8.ofNat 3 :: n :: l' = 3 :: n :: (l'.take n.toNat ++ r)
                  rw [← e2]
                  rfl
              · cases h
          · cases h
/-- A value's bytes, cut, are too short. -/
theorem take_cut {v : ValV} (h : rightP v = true) {p q : List UInt8} (he : encV v = p ++ q) (hq : q ≠ []) : takeG p = .bad 3 := by
  match p, he with
  | [], _ => rfl
  | k :: p, he =>
    rcases right_kinds h with rfl | rfl | rfl | ⟨n, rfl, hn⟩ | ⟨s, rfl, hs⟩
    · rw [enc_null] at he
      simp at he
      exact absurd he.2.2 hq
    · rw [enc_false] at he
      match p, he with
      | [], he => simp at he; rw [← he.1]; rfl
      | _ :: p, he => simp at he; exact absurd he.2.2.2 hq
    · rw [enc_true] at he
      match p, he with
      | [], he => simp at he; rw [← he.1]; rfl
      | _ :: p, he => simp at he; exact absurd he.2.2.2 hq
    · rw [enc_num, List.cons_append] at he
      injection he with e1 e2
      subst e1
      show intG p = _
      have hl := congrArg List.length e2
      rw [word8_len, List.length_append] at hl
      have : 0 < q.length := List.length_pos_iff.2 hq
      unfold intG
      rw [if_pos (by omega)]
    · rw [enc_text, List.cons_append] at he
      injection he with e1 e2
      subst e1
      show strG p = _
      match p, e2 with
      | [], _ => rfl
      | m :: p, e2 =>
        rw [List.cons_append] at e2
        injection e2 with e1 e2
        subst e1
        have hp := plain_iff.1 hs
        have hl := congrArg List.length e2
        rw [str_len, List.length_append] at hl
        have : 0 < q.length := List.length_pos_iff.2 hq
        rw [strG_cons, byteOf_small hp.1, if_pos hp.1]
        unfold textG
        have ho : (p.take s.size).all okByte = true := by
          rw [List.take_of_length_le (by omega)]
          have := hp.2
          rw [e2, List.all_append, Bool.and_eq_true] at this
          exact this.1
        rw [if_pos ho, if_pos (by omega)]
end Go.Proofs.Ytiealokabmjfjaa

/- Pages: what is changed comes back. No walk. -/
import Derived.Test.YtfdedkcidemimaaDoorPmI
import Derived.Test.YtfdedkcidemimaaDoorPmG
namespace Go.Proofs.YtfdedkcidemimaaDoor
set_option linter.unusedVariables false
open Go.ChangeShapes Go.WideShapes Go.ChangeAt Go.RowKit

theorem plain_eq {p : ByteArray} (R : RightP p) : setLsnS p (lsnS p) = layL (readC p) := by
  have ok := readC_ok R
  have hl : lsnS p = (readC p).lsn := by
    rw [lsnS_q]
    unfold qC
    rw [if_pos ((rightP_iff p).mpr R)]
  rw [hl, ← with_lsn R ok.lsn.1 ok.lsn.2]
  exact layR_right R
theorem madeS_ok {c : CtV} {q : ByteArray} (h : madeS c = (q, 0)) : sizeN (trimmed c.recs) ≤ 512 ∧ q = layL (withR c (trimmed c.recs)) := by
  rw [madeS_eq] at h
  by_cases hf : 512 < sizeN (trimmed c.recs)
  · rw [if_pos hf] at h
    injection h with _ h2
    cases h2
  · rw [if_neg hf] at h
    injection h with h1 _
    exact ⟨by omega, h1.symm⟩
theorem madeS_fits {c : CtV} (h : sizeN (trimmed c.recs) ≤ 512) : madeS c = (layL (withR c (trimmed c.recs)), 0) := by
  rw [madeS_eq, if_neg (by omega)]
theorem nil_of_zero {r : ByteArray} (h : r.size = 0) : r = ⟨#[]⟩ := by
  apply ByteArray.ext
  exact Array.eq_empty_of_size_eq_zero h
theorem trim_len (l : List ByteArray) : (trimmed l).length = trimN l l.length := by
  unfold trimmed
  rw [List.length_take, Nat.min_eq_left (trimN_le l l.length)]
theorem trimN_nil (l : List ByteArray) : ∀ k, k ≤ l.length → ∀ i, trimN l k ≤ i → i < k → l[i]? = some ⟨#[]⟩
  | 0, _, _, _, h => absurd h (Nat.not_lt_zero _)
  | k + 1, hk, i, h1, h2 => by
    have hr : l[k]? = some l[k] := List.getElem?_eq_getElem (by omega)
    have hg : l.getD k .empty = l[k] := by rw [List.getD_eq_getElem?_getD, hr]; rfl
    unfold trimN at h1
    rw [hg] at h1
    by_cases hz : l[k].size = 0
    · rw [if_pos hz] at h1
      rcases Nat.lt_or_ge i k with h3 | h3
      · exact trimN_nil l k (by omega) i h1 h3
      · obtain rfl : i = k := by omega
        rw [hr, nil_of_zero hz]
    · rw [if_neg hz] at h1
      omega
/-- What is trimmed and filled up again. -/
theorem pad_trim (l : List ByteArray) : trimmed l ++ List.replicate (l.length - (trimmed l).length) (⟨#[]⟩ : ByteArray) = l := by
  apply List.ext_getElem?
  intro i
  have hle := trimN_le l l.length
  have htl := trim_len l
  by_cases hi : i < (trimmed l).length
  · rw [List.getElem?_append_left hi]
    unfold trimmed
    rw [List.getElem?_take, if_pos (by omega)]
  · rw [List.getElem?_append_right (by omega)]
    by_cases h2 : i < l.length
    · rw [List.getElem?_replicate, if_pos (by omega)]
      exact (trimN_nil l l.length (Nat.le_refl _) i (by omega) h2).symm
    · rw [List.getElem?_eq_none (by simp; omega), List.getElem?_eq_none (by omega)]
theorem trimN_pad (l : List ByteArray) (ht : Trim l) : ∀ k m, k ≤ m → trimN (l ++ List.replicate m (⟨#[]⟩ : ByteArray)) (l.length + k) = l.length
  | 0, m, _ => by
    have h := trimN_all ht
    have key : ∀ j, j ≤ l.length → trimN (l ++ List.replicate m (⟨#[]⟩ : ByteArray)) j = trimN l j := by
      intro j
      induction j with
      | zero => intro _; rfl
      | succ j ih =>
        intro hj
        unfold trimN
        have hg : (l ++ List.replicate m (⟨#[]⟩ : ByteArray)).getD j .empty = l.getD j .empty := by
          rw [List.getD_eq_getElem?_getD, List.getD_eq_getElem?_getD, List.getElem?_append_left (by omega)]
        rw [hg, ih (by omega)]
    rw [Nat.add_zero, key _ (Nat.le_refl _), h]
  | k + 1, m, hk => by
    show trimN _ ((l.length + k) + 1) = _
    unfold trimN
    have hg : (l ++ List.replicate m (⟨#[]⟩ : ByteArray)).getD (l.length + k) .empty = ⟨#[]⟩ := by
      rw [List.getD_eq_getElem?_getD, List.getElem?_append_right (by omega), List.getElem?_replicate, if_pos (by omega)]
      rfl
    rw [hg, if_pos (show (⟨#[]⟩ : ByteArray).size = 0 from rfl)]
    exact trimN_pad l ht k m (by omega)
theorem trimmed_pad {l : List ByteArray} (ht : Trim l) (m : Nat) : trimmed (l ++ List.replicate m (⟨#[]⟩ : ByteArray)) = l := by
  unfold trimmed
  rw [List.length_append, List.length_replicate, trimN_pad l ht m m (Nat.le_refl _), List.take_left]
theorem trim_mem {l : List ByteArray} {r : ByteArray} (h : r ∈ trimmed l) : r ∈ l := List.mem_of_mem_take h
theorem ok_with {p : ByteArray} (R : RightP p) {l : List ByteArray} (hf : sizeN (trimmed l) ≤ 512) (hs : ∀ r ∈ l, r.size ≤ 400) : CtOk (withR (readC p) (trimmed l)) := by
  have ok := readC_ok R
  exact ⟨ok.lsn, ok.kind, ok.link, hf, fun r hr => hs r (trim_mem hr), trim_take _ _ (Nat.le_refl _)⟩
theorem qC_lay {c : CtV} (h : CtOk c) : qC (layL c) = c := by
  unfold qC
  rw [(rightP_iff _).mpr (lay_right' h), if_pos rfl, read_lay h]
theorem rb_lay {c : CtV} (h : CtOk c) : rightB (layL c) = true := (rightP_iff _).mpr (lay_right' h)
theorem rgetV_yes {l : List ByteArray} {k : Nat} {r : ByteArray} (hx : l[k]? = some r) (hr : r.size ≠ 0) : rgetV l (k : Int) = (r, true) := by
  have hk := (List.getElem?_eq_some_iff.1 hx).1
  have hg : l.getD k ⟨#[]⟩ = r := by rw [List.getD_eq_getElem?_getD, hx]; rfl
  unfold rgetV
  rw [Int.toNat_natCast, hg, if_pos ⟨by omega, hk, hr⟩]
theorem rgetV_no {l : List ByteArray} {k : Nat} (h : ∀ r, l[k]? = some r → r.size = 0) : rgetV l (k : Int) = (⟨#[]⟩, false) := by
  unfold rgetV
  rw [Int.toNat_natCast, if_neg]
  rintro ⟨_, h1, h2⟩
  have hx : l[k]? = some l[k] := List.getElem?_eq_getElem h1
  have hg : l.getD k ⟨#[]⟩ = l[k] := by rw [List.getD_eq_getElem?_getD, hx]; rfl
  rw [hg] at h2
  exact h2 (h _ hx)
theorem getS_lay {c : CtV} (h : CtOk c) (s : Int) : getS (layL c) s = rgetV c.recs s := by rw [getS_q, qC_lay h]
theorem getS_nil {p : ByteArray} (R : RightP p) {k : Nat} (hg : (getS p (k : Int)).2 = false) : ∀ r, (readC p).recs[k]? = some r → r.size = 0 := by
  intro r hr
  by_cases hz : r.size = 0
  · exact hz
  · rw [getS_q] at hg
    unfold qC at hg
    rw [if_pos ((rightP_iff p).mpr R), rgetV_yes hr hz] at hg
    cases hg
theorem set_nil {l : List ByteArray} {k : Nat} (h : ∀ r, l[k]? = some r → r.size = 0) : l.set k ⟨#[]⟩ = l := by
  apply List.ext_getElem?
  intro i
  by_cases hi : i = k
  · subst hi
    by_cases hl : i < l.length
    · rw [List.getElem?_set_self hl]
      have hx : l[i]? = some l[i] := List.getElem?_eq_getElem hl
      rw [hx, nil_of_zero (h _ hx)]
    · rw [List.getElem?_eq_none (by rw [List.length_set]; omega), List.getElem?_eq_none (by omega)]
  · rw [List.getElem?_set_ne (by omega)]
theorem rec_at {p : ByteArray} {k : Nat} {r : ByteArray} (hg : getS p (k : Int) = (r, true)) : RightP p ∧ (readC p).recs[k]? = some r ∧ k < shN p 15 ∧ 1 ≤ r.size ∧ r.size ≤ 400 := by
  obtain ⟨hr, _, hlt, hz, hv⟩ := getS_yes (p := p) (s := (k : Int)) (by rw [hg])
  rw [Int.toNat_natCast] at hlt hz hv
  have R := (rightP_iff p).mp hr
  rw [hg] at hv
  injection hv with h1 _
  have hs := recAt_size R hlt
  have hsl := R.slot hlt
  rw [h1]
  refine ⟨R, recs_at p hlt, hlt, ?_, ?_⟩
  · omega
  · omega
theorem isRec_of {r : ByteArray} (h1 : 1 ≤ r.size) (h2 : r.size ≤ 400) : isRec r = true := by
  unfold isRec
  simp
  omega
theorem set_back {l : List ByteArray} {k : Nat} {r : ByteArray} (hx : l[k]? = some r) (u : ByteArray) : (l.set k u).set k r = l := by
  rw [List.set_set]
  apply List.ext_getElem?
  intro i
  by_cases hi : i = k
  · subst hi
    rw [List.getElem?_set_self (List.getElem?_eq_some_iff.1 hx).1, hx]
  · rw [List.getElem?_set_ne (by omega)]
theorem made_back {p : ByteArray} (R : RightP p) {c : CtV} (h1 : c.lsn = (readC p).lsn) (h2 : c.kind = (readC p).kind) (h3 : c.link = (readC p).link) {l : List ByteArray} (hl : trimmed l = (readC p).recs) : madeS (withR c l) = (layL (readC p), 0) := by
  have hf := readC_fits R
  have e : withR (withR c l) (readC p).recs = readC p := by
    obtain ⟨x, y, z, m⟩ := c
    generalize readC p = C at *
    obtain ⟨x', y', z', m'⟩ := C
    dsimp only at h1 h2 h3
    subst h1 h2 h3
    rfl
  have hl2 : trimmed (withR c l).recs = (readC p).recs := hl
  rw [madeS_fits (by rw [hl2]; exact hf), hl2, e]
/-- Put, then Cut. -/
theorem back_put {p q : ByteArray} {s : Int} {r : ByteArray} (h : putS p s r = (q, 0)) : (getS p s).2 = false ∧ RightP q ∧ cutS q s = (setLsnS p (lsnS p), 0) := by
  unfold putS at h
  by_cases hc : rightB p = true ∧ 0 ≤ s ∧ isRec r = true
  · rw [if_pos hc] at h
    have R := (rightP_iff p).mp hc.1
    have hz := isRec_size hc.2.2
    cases hg : (getS p s).2 with
    | true => rw [if_pos hg] at h; injection h with _ h; cases h
    | false =>
      rw [if_neg (by rw [hg]; decide)] at h
      by_cases h128 : 128 ≤ s
      · rw [if_pos h128] at h; injection h with _ h; cases h
      · rw [if_neg h128] at h
        obtain ⟨k, rfl⟩ : ∃ k : Nat, s = k := ⟨s.toNat, by omega⟩
        rw [Int.toNat_natCast] at h
        obtain ⟨hf, rfl⟩ := madeS_ok h
        have ht : trimmed (withR (readC p) (setP (readC p).recs k r)).recs = setP (readC p).recs k r := trimmed_all (trim_setP (readC_trim R) (by omega))
        rw [ht] at hf ⊢
        have ok : CtOk (withR (readC p) (setP (readC p).recs k r)) := by
          have := ok_with R (l := setP (readC p).recs k r) (by rw [trimmed_all (trim_setP (readC_trim R) (by omega))]; exact hf) (by
            intro x hx
            unfold setP at hx
            rcases List.mem_or_eq_of_mem_set hx with h1 | h1
            · rcases List.mem_append.1 h1 with h2 | h2
              · exact recs_small R x h2
              · rw [(List.mem_replicate.1 h2).2]; decide
            · rw [h1]; omega)
          rw [trimmed_all (trim_setP (readC_trim R) (by omega))] at this
          exact this
        have ok' : CtOk (withR (withR (readC p) (setP (readC p).recs k r)) (setP (readC p).recs k r)) := ok
        refine ⟨rfl, lay_right' ok', ?_⟩
        have hgq : getS (layL (withR (withR (readC p) (setP (readC p).recs k r)) (setP (readC p).recs k r))) (k : Int) = (r, true) := by
          rw [getS_lay ok']
          exact rgetV_yes (setP_at _ _ _) (by omega)
        unfold cutS
        rw [rb_lay ok', if_pos rfl, if_pos (by rw [hgq]), read_lay ok', Int.toNat_natCast, plain_eq R]
        refine made_back R rfl rfl rfl ?_
        show trimmed ((setP (readC p).recs k r).set k ⟨#[]⟩) = _
        have hn := getS_nil R hg
        have e : (setP (readC p).recs k r).set k ⟨#[]⟩ = (readC p).recs ++ List.replicate (k + 1 - (readC p).recs.length) ⟨#[]⟩ := by
          unfold setP
          rw [List.set_set]
          refine set_nil (fun x hx => ?_)
          by_cases hl : k < (readC p).recs.length
          · rw [List.getElem?_append_left hl] at hx
            exact hn x hx
          · rw [List.getElem?_append_right (by omega), List.getElem?_replicate, if_pos (by omega)] at hx
            obtain rfl := Option.some.inj hx
            rfl
        rw [e, trimmed_pad (readC_trim R)]
  · rw [if_neg hc] at h
    injection h with _ h
    cases h
theorem mem_set_small {p : ByteArray} (R : RightP p) {k : Nat} {r : ByteArray} (hr : r.size ≤ 400) : ∀ x ∈ (readC p).recs.set k r, x.size ≤ 400 := by
  intro x hx
  rcases List.mem_or_eq_of_mem_set hx with h1 | h1
  · exact recs_small R x h1
  · rw [h1]; exact hr
theorem last_of {l : List ByteArray} {k : Nat} (u : ByteArray) (h : k + 1 < l.length) (ht : Trim l) : Trim (l.set k u) := by
  intro x hx
  rw [List.getLast?_eq_getElem?, List.length_set, List.getElem?_set_ne (by omega), ← List.getLast?_eq_getElem?] at hx
  exact ht x hx
/-- Cut, then Put. -/
theorem back_cut {p q : ByteArray} {s : Int} (h : cutS p s = (q, 0)) : (getS p s).2 = true ∧ RightP q ∧ putS q s (getS p s).1 = (setLsnS p (lsnS p), 0) := by
  unfold cutS at h
  by_cases hr : rightB p = true
  · rw [if_pos hr] at h
    have R := (rightP_iff p).mp hr
    cases hg : (getS p s).2 with
    | false => rw [if_neg (by rw [hg]; decide)] at h; injection h with _ h; cases h
    | true =>
      rw [if_pos hg] at h
      obtain ⟨_, h0, _, _, _⟩ := getS_yes hg
      obtain ⟨k, rfl⟩ : ∃ k : Nat, s = k := ⟨s.toNat, by omega⟩
      rw [Int.toNat_natCast] at h
      obtain ⟨u, hu⟩ : ∃ u, getS p (k : Int) = (u, true) := ⟨(getS p (k : Int)).1, by rw [← hg]⟩
      obtain ⟨_, hx, hlt, hu1, hu2⟩ := rec_at hu
      rw [hu]
      have hb := R.gap
      have hbb := R.beg
      have hkl : k < (readC p).recs.length := (List.getElem?_eq_some_iff.1 hx).1
      obtain ⟨hf, rfl⟩ := madeS_ok h
      have ok : CtOk (withR (readC p) (trimmed ((readC p).recs.set k ⟨#[]⟩))) := ok_with R hf (mem_set_small R (by decide))
      have ok' : CtOk (withR (withR (readC p) ((readC p).recs.set k ⟨#[]⟩)) (trimmed (withR (readC p) ((readC p).recs.set k ⟨#[]⟩)).recs)) := ok
      refine ⟨rfl, lay_right' ok', ?_⟩
      have hX : ∀ r, (trimmed ((readC p).recs.set k ⟨#[]⟩))[k]? = some r → r.size = 0 := by
        intro r hr2
        unfold trimmed at hr2
        rw [List.getElem?_take] at hr2
        split at hr2
        · rw [List.getElem?_set_self hkl] at hr2
          obtain rfl := Option.some.inj hr2
          rfl
        · cases hr2
      have hgq : (getS (layL (withR (withR (readC p) ((readC p).recs.set k ⟨#[]⟩)) (trimmed (withR (readC p) ((readC p).recs.set k ⟨#[]⟩)).recs))) (k : Int)).2 = false := by
        rw [getS_lay ok']
        show (rgetV (trimmed ((readC p).recs.set k ⟨#[]⟩)) (k : Int)).2 = false
        rw [rgetV_no hX]
      rw [putS_yes (lay_right' ok') (by omega) (isRec_of hu1 hu2) hgq, if_neg (by omega), read_lay ok', Int.toNat_natCast, plain_eq R]
      refine made_back R rfl rfl rfl ?_
      show trimmed (setP (trimmed ((readC p).recs.set k ⟨#[]⟩)) k u) = _
      have e : setP (trimmed ((readC p).recs.set k ⟨#[]⟩)) k u = (readC p).recs := by
        by_cases hlast : k + 1 < (readC p).recs.length
        · rw [trimmed_all (last_of _ hlast (readC_trim R)), setP_in (by rw [List.length_set]; exact hkl), set_back hx]
        · have hpt := pad_trim ((readC p).recs.set k ⟨#[]⟩)
          rw [List.length_set, show (readC p).recs.length = k + 1 by omega] at hpt
          unfold setP
          rw [hpt, set_back hx]
      rw [e, trimmed_all (readC_trim R)]
  · rw [if_neg hr] at h
    injection h with _ h
    cases h
/-- Set, then Set. -/
theorem back_set {p q : ByteArray} {s : Int} {r : ByteArray} (h : setS p s r = (q, 0)) : (getS p s).2 = true ∧ RightP q ∧ setS q s (getS p s).1 = (setLsnS p (lsnS p), 0) ∧ lsnS q = lsnS p ∧ linkS q = linkS p ∧ kindS q = kindS p := by
  unfold setS at h
  by_cases hc : rightB p = true ∧ isRec r = true
  · rw [if_pos hc] at h
    have R := (rightP_iff p).mp hc.1
    have hz := isRec_size hc.2
    cases hg : (getS p s).2 with
    | false => rw [if_neg (by rw [hg]; decide)] at h; injection h with _ h; cases h
    | true =>
      rw [if_pos hg] at h
      obtain ⟨_, h0, _, _, _⟩ := getS_yes hg
      obtain ⟨k, rfl⟩ : ∃ k : Nat, s = k := ⟨s.toNat, by omega⟩
      rw [Int.toNat_natCast] at h
      obtain ⟨u, hu⟩ : ∃ u, getS p (k : Int) = (u, true) := ⟨(getS p (k : Int)).1, by rw [← hg]⟩
      obtain ⟨_, hx, hlt, hu1, hu2⟩ := rec_at hu
      rw [hu]
      have hkl : k < (readC p).recs.length := (List.getElem?_eq_some_iff.1 hx).1
      obtain ⟨hf, rfl⟩ := madeS_ok h
      have ht : trimmed ((readC p).recs.set k r) = (readC p).recs.set k r := trimmed_all (trim_set (readC_trim R) (by omega) hkl)
      have ok : CtOk (withR (readC p) (trimmed ((readC p).recs.set k r))) := ok_with R hf (mem_set_small R (by omega))
      have ok' : CtOk (withR (withR (readC p) ((readC p).recs.set k r)) (trimmed (withR (readC p) ((readC p).recs.set k r)).recs)) := ok
      have hgq : (getS (layL (withR (withR (readC p) ((readC p).recs.set k r)) (trimmed (withR (readC p) ((readC p).recs.set k r)).recs))) (k : Int)).2 = true := by
        rw [getS_lay ok']
        have hx2 : (trimmed ((readC p).recs.set k r))[k]? = some r := by rw [ht, List.getElem?_set_self hkl]
        show (rgetV (trimmed ((readC p).recs.set k r)) (k : Int)).2 = true
        rw [rgetV_yes hx2 (by omega)]
      have hq := qC_lay ok'
      have hp : qC p = readC p := by unfold qC; rw [if_pos hc.1]
      refine ⟨rfl, lay_right' ok', ?_, by rw [lsnS_q, lsnS_q, hq, hp]; rfl, by rw [linkS_q, linkS_q, hq, hp]; rfl, ?_⟩
      · unfold setS
        rw [if_pos ⟨rb_lay ok', isRec_of hu1 hu2⟩, if_pos hgq, read_lay ok', Int.toNat_natCast, plain_eq R]
        refine made_back R rfl rfl rfl ?_
        show trimmed ((trimmed ((readC p).recs.set k r)).set k u) = _
        rw [ht, set_back hx, trimmed_all (readC_trim R)]
      · have : (kindS (layL (withR (withR (readC p) ((readC p).recs.set k r)) (trimmed (withR (readC p) ((readC p).recs.set k r)).recs))) : Int) = kindS p := by rw [kindS_q, kindS_q, hq, hp]; rfl
        omega
  · rw [if_neg hc] at h
    injection h with _ h
    cases h
theorem padS_len (l : List ByteArray) (k : Nat) : (padS l k).length = max l.length k := by
  unfold padS
  rw [List.length_append, List.length_replicate]
  omega
theorem insP_at (l : List ByteArray) (k : Nat) (r : ByteArray) : (insP l k r)[k]? = some r := by
  have h := padS_len l k
  unfold insP
  rw [List.getElem?_append_right (by rw [List.length_take]; omega), List.length_take, show k - min k (padS l k).length = 0 by omega]
  rfl
theorem insP_erase (l : List ByteArray) (k : Nat) (r : ByteArray) : (insP l k r).eraseIdx k = padS l k := by
  have h := padS_len l k
  unfold insP
  rw [List.eraseIdx_append_of_length_le (by rw [List.length_take]; omega), List.length_take, show k - min k (padS l k).length = 0 by omega]
  simp
theorem trim_insP {l : List ByteArray} {k : Nat} {r : ByteArray} (ht : Trim l) (hr : r.size ≠ 0) : Trim (insP l k r) := by
  by_cases hk : k < l.length
  · rw [insP_lt hk]
    exact trim_ins ht hk
  · rw [insP_setP (by omega)]
    exact trim_setP ht hr
theorem mem_insP {l : List ByteArray} {k : Nat} {r x : ByteArray} (h : x ∈ insP l k r) : x ∈ l ∨ x = ⟨#[]⟩ ∨ x = r := by
  unfold insP at h
  have hp : ∀ y ∈ padS l k, y ∈ l ∨ y = ⟨#[]⟩ := by
    intro y hy
    unfold padS at hy
    rcases List.mem_append.1 hy with h1 | h1
    · exact .inl h1
    · exact .inr (List.mem_replicate.1 h1).2
  rcases List.mem_append.1 h with h1 | h1
  · rcases hp x (List.mem_of_mem_take h1) with h2 | h2
    · exact .inl h2
    · exact .inr (.inl h2)
  · rcases List.mem_cons.1 h1 with h2 | h2
    · exact .inr (.inr h2)
    · rcases hp x (List.mem_of_mem_drop h2) with h3 | h3
      · exact .inl h3
      · exact .inr (.inl h3)
/-- What Add gives. -/
theorem add_gives {p q : ByteArray} {s : Int} {r : ByteArray} (h : addS p s r = (q, 0)) : ∃ k : Nat, s = k ∧ RightP p ∧ isRec r = true ∧ CtOk (withR (readC p) (insP (readC p).recs k r)) ∧ q = layL (withR (readC p) (insP (readC p).recs k r)) := by
  unfold addS at h
  by_cases hc : rightB p = true ∧ 0 ≤ s ∧ isRec r = true
  · rw [if_pos hc] at h
    have R := (rightP_iff p).mp hc.1
    have hz := isRec_size hc.2.2
    by_cases h128 : 128 ≤ s
    · rw [if_pos h128] at h; injection h with _ h; cases h
    · rw [if_neg h128] at h
      obtain ⟨k, rfl⟩ : ∃ k : Nat, s = k := ⟨s.toNat, by omega⟩
      rw [Int.toNat_natCast] at h
      obtain ⟨hf, rfl⟩ := madeS_ok h
      have ht : trimmed (insP (readC p).recs k r) = insP (readC p).recs k r := trimmed_all (trim_insP (readC_trim R) (by omega))
      have ok := ok_with R hf (fun x hx => by
        rcases mem_insP hx with h1 | h1 | h1
        · exact recs_small R x h1
        · rw [h1]; decide
        · rw [h1]; omega)
      have ht2 : trimmed (withR (readC p) (insP (readC p).recs k r)).recs = insP (readC p).recs k r := ht
      rw [ht2] at ok ⊢
      exact ⟨k, rfl, R, hc.2.2, ok, rfl⟩
  · rw [if_neg hc] at h
    injection h with _ h
    cases h
/-- Add, then Del. -/
theorem back_add {p q : ByteArray} {s : Int} {r : ByteArray} (h : addS p s r = (q, 0)) : RightP q ∧ delS q s = (setLsnS p (lsnS p), 0) := by
  obtain ⟨k, rfl, R, hi, ok, rfl⟩ := add_gives h
  have hz := isRec_size hi
  refine ⟨lay_right' ok, ?_⟩
  have hgq : (getS (layL (withR (readC p) (insP (readC p).recs k r))) (k : Int)).2 = true := by
    rw [getS_lay ok]
    show (rgetV (insP (readC p).recs k r) (k : Int)).2 = true
    rw [rgetV_yes (insP_at _ _ _) (by omega)]
  unfold delS
  rw [rb_lay ok, if_pos rfl, if_pos hgq, read_lay ok, Int.toNat_natCast, plain_eq R]
  refine made_back R rfl rfl rfl ?_
  show trimmed ((insP (readC p).recs k r).eraseIdx k) = _
  rw [insP_erase]
  exact trimmed_pad (readC_trim R) _
theorem erase_ins {l : List ByteArray} {k : Nat} {u : ByteArray} (hx : l[k]? = some u) (ht : Trim l) : insP (trimmed (l.eraseIdx k)) k u = l := by
  have hk : k < l.length := (List.getElem?_eq_some_iff.1 hx).1
  have hlen := List.length_eraseIdx_of_lt hk
  by_cases hlast : k + 1 < l.length
  · have hT : Trim (l.eraseIdx k) := by
      intro x hx2
      rw [List.getLast?_eq_getElem?, hlen, List.getElem?_eraseIdx, if_neg (by omega), show l.length - 1 - 1 + 1 = l.length - 1 by omega, ← List.getLast?_eq_getElem?] at hx2
      exact ht x hx2
    rw [trimmed_all hT, insP_lt (by omega), List.eraseIdx_eq_take_drop_succ, List.take_append_of_le_length (by rw [List.length_take]; omega), List.take_take, Nat.min_self, List.drop_append, List.drop_of_length_le (by rw [List.length_take]; omega), List.length_take, show k - min k l.length = 0 by omega, List.drop_zero, List.nil_append, ← drop_at hx, List.take_append_drop]
  · have hpt := pad_trim (l.eraseIdx k)
    have hpp : padS (trimmed (l.eraseIdx k)) k = l.eraseIdx k := by
      unfold padS
      rw [show k = (l.eraseIdx k).length by omega]
      rw [show (l.eraseIdx (l.eraseIdx k).length) = l.eraseIdx k by rw [show (l.eraseIdx k).length = k by omega]]
      exact hpt
    unfold insP
    rw [hpp, List.take_of_length_le (by omega), List.drop_of_length_le (by omega), List.eraseIdx_eq_take_drop_succ, List.drop_of_length_le (by omega), List.append_nil]
    have := take_at hx
    rw [← this, List.take_of_length_le (by omega)]
/-- What Del gives. -/
theorem del_gives {p q : ByteArray} {s : Int} (h : delS p s = (q, 0)) : ∃ (k : Nat) (u : ByteArray), s = k ∧ RightP p ∧ getS p s = (u, true) ∧ CtOk (withR (readC p) (trimmed ((readC p).recs.eraseIdx k))) ∧ q = layL (withR (readC p) (trimmed ((readC p).recs.eraseIdx k))) := by
  unfold delS at h
  by_cases hr : rightB p = true
  · rw [if_pos hr] at h
    have R := (rightP_iff p).mp hr
    cases hg : (getS p s).2 with
    | false => rw [if_neg (by rw [hg]; decide)] at h; injection h with _ h; cases h
    | true =>
      rw [if_pos hg] at h
      obtain ⟨_, h0, _, _, _⟩ := getS_yes hg
      obtain ⟨k, rfl⟩ : ∃ k : Nat, s = k := ⟨s.toNat, by omega⟩
      rw [Int.toNat_natCast] at h
      obtain ⟨hf, rfl⟩ := madeS_ok h
      exact ⟨k, (getS p (k : Int)).1, rfl, R, by rw [← hg], ok_with R hf (fun x hx => recs_small R x (List.mem_of_mem_eraseIdx hx)), rfl⟩
  · rw [if_neg hr] at h
    injection h with _ h
    cases h
/-- Del, then Add. -/
theorem back_del {p q : ByteArray} {s : Int} (h : delS p s = (q, 0)) : RightP q ∧ addS q s (getS p s).1 = (setLsnS p (lsnS p), 0) := by
  obtain ⟨k, u, rfl, R, hu, ok, rfl⟩ := del_gives h
  obtain ⟨_, hx, hlt, hu1, hu2⟩ := rec_at hu
  have hb := R.gap
  have hbb := R.beg
  rw [hu]
  refine ⟨lay_right' ok, ?_⟩
  unfold addS
  rw [if_pos ⟨rb_lay ok, by omega, isRec_of hu1 hu2⟩, if_neg (by omega), read_lay ok, Int.toNat_natCast, plain_eq R]
  refine made_back R rfl rfl rfl ?_
  show trimmed (insP (trimmed ((readC p).recs.eraseIdx k)) k u) = _
  rw [erase_ins hx (readC_trim R), trimmed_all (readC_trim R)]
end Go.Proofs.YtfdedkcidemimaaDoor

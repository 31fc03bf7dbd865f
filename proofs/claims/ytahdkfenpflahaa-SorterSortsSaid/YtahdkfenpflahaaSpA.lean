/- Mathematics of the reference's Sort: each row at its place among those ahead; what stands in memory between two rounds. No walk. -/
import Derived.Test.YtahdkfenpflahaaSoYw
namespace Go.Proofs.Ytahdkfenpflahaa
set_option linter.unusedVariables false
open Go.ChangeShapes Go.WideShapes Go.ChangeAt Go.RowKit

theorem rise_ins {ks : List (Int × Bool)} {S : List (List ValV)} {x : List ValV} {k : Nat} (hS : RiseK ks S) (kS : ∀ a ∈ S, AllK ks a) (kx : AllK ks x)
    (h1 : ∀ (i : Nat) a, i < k → S[i]? = some a → befB x a ks = false) (h2 : ∀ a, S[k]? = some a → befB x a ks = true) : RiseK ks (S.take k ++ x :: S.drop k) := by
  have hT : ∀ a ∈ S.take k, cmpK a x ks ≤ 0 := fun a ha => by
    obtain ⟨i, hi⟩ := List.getElem?_of_mem ha
    have hil : i < k := by have := (List.getElem?_eq_some_iff.1 hi).1; rw [List.length_take] at this; omega
    rw [List.getElem?_take_of_lt hil] at hi
    have hb := h1 i a hil hi
    rw [befB_cmp kx (kS a (List.mem_of_getElem? hi))] at hb
    have := of_decide_eq_false hb
    have := cmpK_neg x a ks
    omega
  have hD : ∀ a ∈ S.drop k, cmpK x a ks ≤ 0 := fun a ha => by
    match hd : S.drop k, ha with
    | b :: D, ha =>
      have hb : S[k]? = some b := by
        have : (S.drop k)[0]? = some b := by rw [hd]; rfl
        rw [List.getElem?_drop, Nat.add_zero] at this
        exact this
      have hxb := h2 b hb
      rw [befB_cmp kx (kS b (List.mem_of_getElem? hb))] at hxb
      have hlt := of_decide_eq_true hxb
      have hp : RiseK ks (b :: D) := by rw [← hd]; exact hS.sublist (List.drop_sublist _ _)
      rcases List.mem_cons.1 ha with rfl | ha
      · omega
      · exact cmpK_trans x b a ks (by omega) ((List.pairwise_cons.1 hp).1 a ha)
  have hTD : ∀ a ∈ S.take k, ∀ b ∈ S.drop k, cmpK a b ks ≤ 0 := by
    have : RiseK ks (S.take k ++ S.drop k) := by rw [List.take_append_drop]; exact hS
    exact (List.pairwise_append.1 this).2.2
  refine List.pairwise_append.2 ⟨hS.sublist (List.take_sublist _ _), List.pairwise_cons.2 ⟨hD, hS.sublist (List.drop_sublist _ _)⟩, fun a ha b hb => ?_⟩
  rcases List.mem_cons.1 hb with rfl | hb
  · exact hT a ha
  · exact hTD a ha b hb
/-- What out holds behind i rows. -/
structure InsK (ks : List (Int × Bool)) (rows : List (List ValV)) (i : Nat) (S : List (List ValV)) : Prop where
  rise : RiseK ks S
  perm : S.Perm (rows.take i)
theorem InsK.next {ks : List (Int × Bool)} {rows S : List (List ValV)} {i k : Nat} {x : List ValV} (h : InsK ks rows i S) (hx : rows[i]? = some x) (ha : ∀ a ∈ rows, AllK ks a)
    (h1 : ∀ (i : Nat) a, i < k → S[i]? = some a → befB x a ks = false) (h2 : ∀ a, S[k]? = some a → befB x a ks = true) : InsK ks rows (i + 1) (S.take k ++ x :: S.drop k) := by
  refine ⟨rise_ins h.rise (fun a hm => ha a (List.mem_of_mem_take (h.perm.mem_iff.1 hm))) (ha x (List.mem_of_getElem? hx)) h1 h2, ?_⟩
  rw [take_at hx]
  refine List.perm_middle.trans ?_
  rw [List.take_append_drop]
  exact (h.perm.cons x).trans (List.perm_append_comm (l₁ := [x]))
theorem InsK.done {ks : List (Int × Bool)} {rows S : List (List ValV)} {i : Nat} (h : InsK ks rows i S) (hi : rows.length ≤ i) (ha : ∀ a ∈ rows, AllK ks a) : S = sortR ks rows := by
  have hp := h.perm
  rw [List.take_of_length_le hi] at hp
  exact rise_unique h.rise (sortR_rise ha) (hp.trans (sortR_perm ks rows).symm)
/-- Rows that are the call's own. -/
structure OwnRs (base : Nat) (w : World) (v : Value) (os : List HRow) : Prop where
  out : OwnH base w v os
  rows : ∀ p ∈ os, OwnR base w p
section
variable {base : Nat} {w w' : World} {v : Value} {os : List HRow} {X : Option Addr} {n c : Nat} {p : HRow}
theorem OwnR.kept (h : OwnR base w p) (hb : Below w.heap.size w w') : OwnR base w' p := ⟨h.1, own_below h.2 hb⟩
theorem OwnR.lower {b : Nat} (h : OwnR base w p) (hb : b ≤ base) : OwnR b w p := ⟨h.1, own_base h.2 hb⟩
theorem OwnR.grown (h : OwnR base w p) {u : Value} {b2 : Nat} {os2 : List HRow} (hg : w.grownBy w' u.ownBlock) (ho : OwnH b2 w u os2) : OwnR base w' p := ⟨h.1, h.2.kept hg (own_ne h.2 ho ne_RH)⟩
theorem OwnRs.kept (h : OwnRs base w v os) (hb : Below w.heap.size w w') : OwnRs base w' v os := ⟨h.out.kept hb, fun p hp => (h.rows p hp).kept hb⟩
theorem OwnRs.lower {b : Nat} (h : OwnRs base w v os) (hb : b ≤ base) : OwnRs b w v os := ⟨own_base h.out hb, fun p hp => (h.rows p hp).lower hb⟩
theorem OwnRs.hs (h : OwnRs base w (.slice X n c) os) : HsAt w X n c os := by
  obtain ⟨A, c', e, hs⟩ := h.out.hsR h.rows
  injection e with e1 e2 e3
  subst e1 e2 e3
  exact hs
end
end Go.Proofs.Ytahdkfenpflahaa

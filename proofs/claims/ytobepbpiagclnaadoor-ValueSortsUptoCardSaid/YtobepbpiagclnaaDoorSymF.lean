/- Mathematics of the sort by blocks: what rises block by block. No walk. -/
import Derived.Test.YtobepbpiagclnaaDoorSymE
namespace Go.Proofs.YtobepbpiagclnaaDoor
set_option linter.unusedVariables false
open Go.ChangeShapes Go.WideShapes Go.ChangeAt Go.RowKit

/-- Up to k it rises by blocks of s, behind it by blocks of t. -/
def BlkTo (s t k : Nat) (D : List RowP) : Prop := ∀ (i j : Nat) (x y : RowP), i ≤ j → D[i]? = some x → D[j]? = some y → ((j < k ∧ i / s = j / s) ∨ (k ≤ i ∧ i / t = j / t)) → cmpR x.2 y.2 ≤ 0
theorem blk_start (s : Nat) (D : List RowP) : BlkTo s 1 0 D := by
  intro i j x y hij hx hy h
  rcases h with ⟨h, _⟩ | ⟨_, h⟩
  · omega
  · rw [Nat.div_one, Nat.div_one] at h
    subst h
    rw [hx] at hy
    injection hy with hy
    subst hy
    rw [cmpR_refl]
    exact Int.le_refl 0
theorem blk_again {s s2 t k : Nat} {D : List RowP} (h : BlkTo s t k D) (hl : D.length ≤ k) : BlkTo s2 s 0 D := by
  intro i j x y hij hx hy h2
  rcases h2 with ⟨h2, _⟩ | ⟨_, h2⟩
  · omega
  · exact h i j x y hij hx hy (.inl ⟨by have := (List.getElem?_eq_some_iff.1 hy).1; omega, h2⟩)
theorem blk_end {s t k : Nat} {D : List RowP} (h : BlkTo s t k D) (hl : D.length ≤ k) (hs : D.length ≤ s) : RisesP D := by
  refine List.pairwise_iff_getElem.2 fun i j hi hj hij => ?_
  refine h i j _ _ (by omega) (List.getElem?_eq_getElem hi) (List.getElem?_eq_getElem hj) (.inl ⟨by omega, ?_⟩)
  rw [Nat.div_eq_of_lt (by omega), Nat.div_eq_of_lt (by omega)]
theorem blk_step {s t q k : Nat} {L T T' R : List RowP} (hs : 0 < s) (hk : k = q * s) (hL : L.length = k) (hT : T'.length = T.length) (hts : T.length ≤ s) (hR : T.length = s ∨ R = []) (h : BlkTo s t k (L ++ (T ++ R))) (hr : RisesP T') : BlkTo s t (k + s) (L ++ (T' ++ R)) := by
  have hdiv : ∀ j, k ≤ j → j < k + s → j / s = q := fun j h1 h2 => Nat.div_eq_of_lt_le (by omega) (by rw [Nat.add_mul, Nat.one_mul]; omega)
  have get1 : ∀ i x, i < k → (L ++ (T' ++ R))[i]? = some x → (L ++ (T ++ R))[i]? = some x := fun i x hi hx => by
    rw [List.getElem?_append_left (by omega)] at hx ⊢
    exact hx
  have get2 : ∀ i x, k ≤ i → i < k + T.length → (L ++ (T' ++ R))[i]? = some x → T'[i - k]? = some x := fun i x h1 h2 hx => by
    rw [List.getElem?_append_right (by omega), List.getElem?_append_left (by omega), hL] at hx
    exact hx
  have get3 : ∀ i x, k + T.length ≤ i → (L ++ (T' ++ R))[i]? = some x → (L ++ (T ++ R))[i]? = some x := fun i x h1 hx => by
    rw [List.getElem?_append_right (by omega), List.getElem?_append_right (by omega)] at hx ⊢
    rw [hT] at hx
    exact hx
  have hin : ∀ i x, k ≤ i → i < k + s → (L ++ (T' ++ R))[i]? = some x → i < k + T.length := fun i x h1 h2 hx => by
    rcases hR with e | rfl
    · omega
    · have := (List.getElem?_eq_some_iff.1 hx).1
      rw [List.append_nil, List.length_append] at this
      omega
  intro i j x y hij hx hy h2
  rcases h2 with ⟨h2, h3⟩ | ⟨h2, h3⟩
  · by_cases hjk : j < k
    · exact h i j x y hij (get1 i x (by omega) hx) (get1 j y hjk hy) (.inl ⟨hjk, h3⟩)
    · rw [hdiv j (by omega) h2] at h3
      have hik : k ≤ i := by have := Nat.div_mul_le_self i s; rw [h3] at this; omega
      have g1 := hin i x hik (by omega) hx
      have g2 := hin j y (by omega) h2 hy
      exact rises_le hr (by omega) (get2 i x hik g1 hx) (get2 j y (by omega) g2 hy)
  · exact h i j x y hij (get3 i x (by omega) hx) (get3 j y (by omega) hy) (.inr ⟨by omega, h3⟩)
/-- A part within one block of the finer cut rises. -/
theorem blk_part {s t k : Nat} {L T R : List RowP} {q : Nat} (h : BlkTo s t k (L ++ (T ++ R))) (hk : k ≤ L.length) (hL : L.length = q * t) (hT : T.length ≤ t) : RisesP T := by
  refine List.pairwise_iff_getElem.2 fun i j hi hj hij => ?_
  have hdiv : ∀ i, i < T.length → (L.length + i) / t = q := fun i hi => Nat.div_eq_of_lt_le (by omega) (by rw [Nat.add_mul, Nat.one_mul]; omega)
  have get : ∀ i (hi : i < T.length), (L ++ (T ++ R))[L.length + i]? = some T[i] := fun i hi => by
    rw [List.getElem?_append_right (by omega), List.getElem?_append_left (by omega), show L.length + i - L.length = i from by omega]
    exact List.getElem?_eq_getElem hi
  exact h _ _ _ _ (by omega) (get i hi) (get j hj) (.inr ⟨by omega, by rw [hdiv i hi, hdiv j hj]⟩)
/-- What sorting gives. -/
def GivesStable (base g n cap : Nat) (w : World) (D0 : List RowP) (e : Ending) (w' : World) : Prop := e = .returned (.tuple #[]) ∧ ∃ D, D.Perm D0 ∧ RisesP D ∧ MovR base g n cap w w' D
theorem cut3 (D : List RowP) (a s : Nat) : D.take a ++ ((D.drop a).take s ++ D.drop (a + s)) = D := by
  rw [← List.drop_drop, List.take_append_drop, List.take_append_drop]
theorem perm_mid {L T T' R D : List RowP} (hD : L ++ (T ++ R) = D) (h : T'.Perm T) {D0 : List RowP} (hp : D.Perm D0) : (L ++ (T' ++ R)).Perm D0 := by
  subst hD
  exact ((h.append_right R).append_left L).trans hp
end Go.Proofs.YtobepbpiagclnaaDoor

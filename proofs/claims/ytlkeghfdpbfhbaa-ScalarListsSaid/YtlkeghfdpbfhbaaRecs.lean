/- Words of my own on slices of structs, and on slices of slices. -/
import Derived.Test.YtlkeghfdpbfhbaaLib
import Derived.Deep.Slices
import Derived.Deep.Fields
import Derived.ChangeSame
namespace Go.Proofs.Ytlkeghfdpbfhbaa
set_option linter.unusedVariables false
open Go.ChangeShapes Go.WideShapes Go.ChangeAt Go.RowKit Go.Deep

/-- The slice reads as records of k cells each. -/
def Recs (w : World) (B : Nat) (A : Option Addr) (k : Nat) (xss : List (List Value)) : Prop := (∀ xs ∈ xss, xs.length = k) ∧ Cells w B A xss.flatten
theorem flat_get {α : Type} : ∀ (xss : List (List α)) (k i j : Nat) (xs : List α) (u : α), (∀ ys ∈ xss, ys.length = k) → xss[i]? = some xs → xs[j]? = some u → xss.flatten[i * k + j]? = some u
  | [], _, _, _, _, _, _, h, _ => by simp at h
  | ys :: l, k, 0, j, xs, u, hk, h, hj => by
    simp only [List.getElem?_cons_zero, Option.some.injEq] at h
    subst h
    have hl := (List.getElem?_eq_some_iff.1 hj).1
    rw [List.flatten_cons, Nat.zero_mul, Nat.zero_add, List.getElem?_append_left hl, hj]
  | ys :: l, k, i + 1, j, xs, u, hk, h, hj => by
    have hy := hk ys List.mem_cons_self
    rw [List.getElem?_cons_succ] at h
    rw [List.flatten_cons, List.getElem?_append_right (by rw [hy, Nat.succ_mul]; omega), hy, show (i + 1) * k + j - k = i * k + j by rw [Nat.succ_mul]; omega]
    exact flat_get l k i j xs u (fun zs hz => hk zs (List.mem_cons_of_mem _ hz)) h hj
theorem flat_len {α : Type} : ∀ (xss : List (List α)) (k : Nat), (∀ ys ∈ xss, ys.length = k) → xss.flatten.length = xss.length * k
  | [], _, _ => by simp
  | ys :: l, k, hk => by
    rw [List.flatten_cons, List.length_append, hk ys List.mem_cons_self, flat_len l k (fun zs hz => hk zs (List.mem_cons_of_mem _ hz)), List.length_cons, Nat.succ_mul]
    omega
theorem Recs.at {w : World} {B : Nat} {A : Option Addr} {k : Nat} {xss : List (List Value)} (h : Recs w B A k xss) (hk : 0 < k) (hn : 0 < xss.length) :
    ∃ b off, A = some ⟨b, off, none⟩ ∧ b < B ∧ ∀ i xs j u, xss[i]? = some xs → xs[j]? = some u → w.cell? ⟨b, off + (i * k + j), none⟩ = some u := by
  obtain ⟨b, off, e, hlt, hc⟩ := h.2 (by rw [flat_len _ _ h.1]; exact Nat.mul_pos hn hk)
  exact ⟨b, off, e, hlt, fun i xs j u h1 h2 => hc _ _ (flat_get _ _ _ _ _ _ h.1 h1 h2)⟩
theorem Recs.below {w w' : World} {B : Nat} {A : Option Addr} {k : Nat} {xss : List (List Value)} (h : Recs w B A k xss) (hb : Below B w w') : Recs w' B A k xss := ⟨h.1, h.2.below hb⟩
theorem Recs.more {w : World} {B B' : Nat} {A : Option Addr} {k : Nat} {xss : List (List Value)} (h : Recs w B A k xss) (hB : B ≤ B') : Recs w B' A k xss := ⟨h.1, h.2.more hB⟩
theorem Recs.kept {w w' : World} {A : Option Addr} {k : Nat} {xss : List (List Value)} (h : Recs w w.heap.size A k xss) (hb : Below w.heap.size w w') : Recs w' w'.heap.size A k xss := (h.below hb).more hb.size
theorem list_of {α : Type} {R : Nat → α → Prop} : ∀ n : Nat, (∀ i, i < n → ∃ a, R i a) → ∃ l : List α, l.length = n ∧ ∀ i a, l[i]? = some a → R i a
  | 0, _ => ⟨[], rfl, by simp⟩
  | n + 1, h => by
    obtain ⟨l, hl, hr⟩ := list_of n (fun i hi => h i (by omega))
    obtain ⟨a, ha⟩ := h n (by omega)
    refine ⟨l ++ [a], by simp [hl], fun i b hb => ?_⟩
    by_cases hi : i < n
    · rw [List.getElem?_append_left (by omega)] at hb
      exact hr i b hb
    · rw [List.getElem?_append_right (by omega)] at hb
      have : i = n := by
        have := (List.getElem?_eq_some_iff.1 hb).1
        simp at this
        omega
      subst this
      simp [hl] at hb
      rw [← hb]
      exact ha
section
variable {H : Type} {enc : TypeId × Value → H} {P : Program} {w : World} {base : Nat} {spare : Nat → Bool} {held : Bool}
/-- A slice that came in, element by element: each element's cells. -/
theorem open_elems {α : Type} (f : α → List Value) {Good : α → Prop} {t e : TypeId} {k fuel : Nat} {cs : List Value} {x : DataW H × List MemPlace} (ht : P.underlying t = some (.slice e)) (hC : P.cellsOf e = k) (hk : 0 < k)
    (bulk : DataW H → Nat) (hb1 : ∀ es sp d, d ∈ es → bulk d ≤ bulk (.slice es sp)) (hb2 : ∀ es sp, es.length ≤ bulk (.slice es sp)) {M : Nat} (hM : bulk x.1 ≤ M)
    (hf : ∀ n vs y, vs.length = k → DataW.trod enc P w base spare held n e vs = some y → bulk y.1 ≤ M → ∃ a, vs = f a ∧ Good a)
    (h : DataW.trod enc P w base spare held fuel t cs = some x) :
    ∃ (A : Option Addr) (n c : Nat) (l : List α), cs = [.slice A n c] ∧ n ≤ c ∧ c ≤ maxLen ∧ (A = none → n = 0) ∧ l.length = n ∧ n ≤ M ∧ Recs w w.heap.size A k (l.map f) ∧ ∀ a ∈ l, Good a := by
  rcases open_slice ht h with ⟨rfl, _⟩ | ⟨a, len, cap, m, n, D, Pl, rfl, hb, hl, hm, hmm, hx, hi⟩
  · exact ⟨none, 0, 0, [], rfl, Nat.le_refl _, Nat.zero_le _, fun _ => rfl, rfl, Nat.zero_le _, ⟨by simp, Cells.none _ _ _⟩, by simp⟩
  · have hlm : len ≤ m := by rw [hmm]; split <;> omega
    have key : ∀ i, i < len → ∃ b : α, (∀ j u, (f b)[j]? = some u → w.cell? (a.add (i * k + j)) = some u) ∧ (f b).length = k ∧ Good b := by
      intro i hlt
      obtain ⟨vs, hc, ht'⟩ := hi i (by omega)
      rw [hC] at hc
      obtain ⟨_, hcl, hat⟩ := World.cells?_some hc
      obtain ⟨b, rfl, hg⟩ := hf n vs _ hcl ht' (Nat.le_trans (hb1 _ _ (D i) (List.mem_map.2 ⟨i, List.mem_range.2 hlt, rfl⟩)) (by rw [hx] at hM; exact hM))
      refine ⟨b, fun j u hu => ?_, hcl, hg⟩
      have hj : j < k := by have := (List.getElem?_eq_some_iff.1 hu).1; omega
      rw [← Go.Deep.add_add, hat j hj, hu]
    obtain ⟨l, hll, hr⟩ := list_of len key
    have hlM : len ≤ M := by
      rw [hx] at hM
      have := hb2 ((List.range len).map D) ((List.range (m - len)).map fun j => D (len + j))
      rw [List.length_map, List.length_range] at this
      exact Nat.le_trans this hM
    refine ⟨some a, len, cap, l, rfl, hl, hm, by simp, hll, hlM, ⟨?_, ?_⟩, ?_⟩
    · intro xs hxs
      obtain ⟨b, hb', rfl⟩ := List.mem_map.1 hxs
      obtain ⟨i, hi'⟩ := List.getElem?_of_mem hb'
      exact (hr i b hi').2.1
    · intro hn
      have hn' : 0 < len := by
        rcases l with _ | ⟨b, l⟩
        · simp at hn
        · simp at hll; omega
      obtain ⟨b0, h0⟩ : ∃ b0, l[0]? = some b0 := ⟨l[0]'(by omega), List.getElem?_eq_getElem (by omega)⟩
      have hr0 := hr 0 b0 h0
      obtain ⟨bk, off, spot⟩ := a
      have hcell0 := hr0.1 0 ((f b0)[0]'(by omega)) (List.getElem?_eq_getElem (by omega))
      have hspot : spot = none := by simpa [Addr.add] using World.cell?_spot hcell0
      subst hspot
      have hlt : bk < w.heap.size := World.block_lt_of_cell? (a := ⟨bk, off + (0 * k + 0), none⟩) w (by rw [add_off] at hcell0; exact hcell0)
      refine ⟨bk, off, rfl, hlt, fun i u hu => ?_⟩
      have hlen : ∀ ys ∈ l.map f, ys.length = k := by
        intro xs hxs
        obtain ⟨b, hb', rfl⟩ := List.mem_map.1 hxs
        obtain ⟨i, hi'⟩ := List.getElem?_of_mem hb'
        exact (hr i b hi').2.1
      have hil : i < len * k := by
        have := (List.getElem?_eq_some_iff.1 hu).1
        rw [flat_len _ _ hlen, List.length_map, hll] at this
        exact this
      have hq : i / k < len := (Nat.div_lt_iff_lt_mul hk).2 hil
      have hrm : i % k < k := Nat.mod_lt _ hk
      have hdm : i = i / k * k + i % k := by rw [Nat.mul_comm]; exact (Nat.div_add_mod i k).symm
      obtain ⟨bq, hbq⟩ : ∃ bq, l[i / k]? = some bq := ⟨l[i / k]'(by omega), List.getElem?_eq_getElem (by omega)⟩
      have hrq := hr _ bq hbq
      have hv : (f bq)[i % k]? = some ((f bq)[i % k]'(by omega)) := List.getElem?_eq_getElem (by omega)
      have hcell := hrq.1 _ _ hv
      have hu2 := flat_get (l.map f) k (i / k) (i % k) (f bq) _ hlen (by rw [List.getElem?_map, hbq]; rfl) hv
      rw [← hdm] at hu2 hcell
      rw [hu] at hu2
      rw [add_off] at hcell
      rw [hcell, ← hu2]
    · intro b hb'
      obtain ⟨i, hi'⟩ := List.getElem?_of_mem hb'
      exact (hr i b hi').2.2
/-- The cells of a struct of 2 fields of one cell each. -/
theorem open_fields2 {t : TypeId} {f0 f1 : Field} {fuel : Nat} {vs : List Value} {y : DataW H × List MemPlace} (hs : P.underlying t = some (.struct #[f0, f1])) (hone : oneCellFields P #[f0, f1] = true) (hl : vs.length = 2) (h : DataW.trod enc P w base spare held fuel t vs = some y) :
    ∃ (a0 a1 : Value) (y0 y1 : DataW H × List MemPlace) (m : Nat), vs = [a0, a1] ∧ y.1 = .agg [y0.1, y1.1] ∧ DataW.trod enc P w base spare held m f0.type [a0] = some y0 ∧ DataW.trod enc P w base spare held m f1.type [a1] = some y1 := by
  obtain ⟨ys, m, _, hx, _, hlen, hg⟩ := DataW.trod_struct hs h
  obtain ⟨o0, k0⟩ := hone_of hone 0 f0 rfl
  obtain ⟨o1, k1⟩ := hone_of hone 1 f1 rfl
  match vs, hl, ys, hlen with
  | [a0, a1], _, [y0, y1], _ =>
    exact ⟨a0, a1, y0, y1, m, rfl, by rw [hx]; rfl, by simpa [o0, k0] using hg 0 f0 rfl, by simpa [o1, k1] using hg 1 f1 rfl⟩
/-- The cells of a struct of 3 fields of one cell each. -/
theorem open_fields3 {t : TypeId} {f0 f1 f2 : Field} {fuel : Nat} {vs : List Value} {y : DataW H × List MemPlace} (hs : P.underlying t = some (.struct #[f0, f1, f2])) (hone : oneCellFields P #[f0, f1, f2] = true) (hl : vs.length = 3) (h : DataW.trod enc P w base spare held fuel t vs = some y) :
    ∃ (a0 a1 a2 : Value) (y0 y1 y2 : DataW H × List MemPlace) (m : Nat), vs = [a0, a1, a2] ∧ y.1 = .agg [y0.1, y1.1, y2.1] ∧ DataW.trod enc P w base spare held m f0.type [a0] = some y0 ∧ DataW.trod enc P w base spare held m f1.type [a1] = some y1 ∧ DataW.trod enc P w base spare held m f2.type [a2] = some y2 := by
  obtain ⟨ys, m, _, hx, _, hlen, hg⟩ := DataW.trod_struct hs h
  obtain ⟨o0, k0⟩ := hone_of hone 0 f0 rfl
  obtain ⟨o1, k1⟩ := hone_of hone 1 f1 rfl
  obtain ⟨o2, k2⟩ := hone_of hone 2 f2 rfl
  match vs, hl, ys, hlen with
  | [a0, a1, a2], _, [y0, y1, y2], _ =>
    exact ⟨a0, a1, a2, y0, y1, y2, m, rfl, by rw [hx]; rfl, by simpa [o0, k0] using hg 0 f0 rfl, by simpa [o1, k1] using hg 1 f1 rfl, by simpa [o2, k2] using hg 2 f2 rfl⟩
/-- The cells of a struct of 4 fields of one cell each. -/
theorem open_fields4 {t : TypeId} {f0 f1 f2 f3 : Field} {fuel : Nat} {vs : List Value} {y : DataW H × List MemPlace} (hs : P.underlying t = some (.struct #[f0, f1, f2, f3])) (hone : oneCellFields P #[f0, f1, f2, f3] = true) (hl : vs.length = 4) (h : DataW.trod enc P w base spare held fuel t vs = some y) :
    ∃ (a0 a1 a2 a3 : Value) (y0 y1 y2 y3 : DataW H × List MemPlace) (m : Nat), vs = [a0, a1, a2, a3] ∧ y.1 = .agg [y0.1, y1.1, y2.1, y3.1] ∧ DataW.trod enc P w base spare held m f0.type [a0] = some y0 ∧ DataW.trod enc P w base spare held m f1.type [a1] = some y1 ∧ DataW.trod enc P w base spare held m f2.type [a2] = some y2 ∧ DataW.trod enc P w base spare held m f3.type [a3] = some y3 := by
  obtain ⟨ys, m, _, hx, _, hlen, hg⟩ := DataW.trod_struct hs h
  obtain ⟨o0, k0⟩ := hone_of hone 0 f0 rfl
  obtain ⟨o1, k1⟩ := hone_of hone 1 f1 rfl
  obtain ⟨o2, k2⟩ := hone_of hone 2 f2 rfl
  obtain ⟨o3, k3⟩ := hone_of hone 3 f3 rfl
  match vs, hl, ys, hlen with
  | [a0, a1, a2, a3], _, [y0, y1, y2, y3], _ =>
    exact ⟨a0, a1, a2, a3, y0, y1, y2, y3, m, rfl, by rw [hx]; rfl, by simpa [o0, k0] using hg 0 f0 rfl, by simpa [o1, k1] using hg 1 f1 rfl, by simpa [o2, k2] using hg 2 f2 rfl, by simpa [o3, k3] using hg 3 f3 rfl⟩
end
end Go.Proofs.Ytlkeghfdpbfhbaa

/- What is found with more columns further out, and with a depth more ahead. No walk. -/
import Derived.Test.YtjbnhaiiedajjaaDoorScopeW
namespace Go.Proofs.YtjbnhaiiedajjaaDoor
set_option linter.unusedVariables false
open Go.ChangeShapes Go.WideShapes Go.ChangeAt Go.RowKit

theorem places_is {α : Type} (p : α → Bool) : ∀ (l : List α) (i k : Nat), k ∈ placesF p i l → ∃ x, l[k - i]? = some x ∧ p x = true
  | [], _, _, h => by simp [placesF] at h
  | d :: l, i, k, h => by
    simp only [placesF] at h
    have tl : k ∈ placesF p (i + 1) l → ∃ x, (d :: l)[k - i]? = some x ∧ p x = true := fun h => by
      obtain ⟨x, hx, hp⟩ := places_is p l (i + 1) k h
      have := places_lt p l (i + 1) k h
      exact ⟨x, by rw [show k - i = (k - (i + 1)) + 1 by omega, List.getElem?_cons_succ]; exact hx, hp⟩
    by_cases hd : p d
    · rw [if_pos hd] at h
      rcases List.mem_cons.1 h with rfl | h
      · exact ⟨d, by simp, hd⟩
      · exact tl h
    · rw [if_neg hd] at h
      exact tl h
theorem find_kinds (t n : ByteArray) : ∀ (env : List (List ColV)) (d : Nat), (findF t n d env = (0, 0, 6)) ∨ (findF t n d env = (0, 0, 8)) ∨
    ∃ k y cs c, findF t n d env = (d + k, y, 0) ∧ env[k]? = some cs ∧ cs[y]? = some c ∧ meansB t n c = true
  | [], d => .inl rfl
  | c :: l, d => by
    have h := find_kinds t n l (d + 1)
    unfold findF
    match hp : placesF (meansB t n) 0 c with
    | [] =>
      rcases h with h | h | ⟨k, y, cs, x, h, h1, h2, h3⟩
      · exact .inl h
      · exact .inr (.inl h)
      · exact .inr (.inr ⟨k + 1, y, cs, x, by rw [h]; simp; omega, by rw [List.getElem?_cons_succ]; exact h1, h2, h3⟩)
    | [i] =>
      have hi : i ∈ placesF (meansB t n) 0 c := by rw [hp]; exact List.mem_cons_self
      have hlt := places_lt (meansB t n) c 0 i hi
      have hm := places_is (meansB t n) c 0 i hi
      obtain ⟨x, hx, hxm⟩ := hm
      exact .inr (.inr ⟨0, i, c, x, rfl, rfl, by simpa using hx, hxm⟩)
    | i :: j :: r => exact .inr (.inl rfl)
theorem find_add (t n : ByteArray) : ∀ (env : List (List ColV)) (d k : Nat), findF t n (d + k) env = if (findF t n d env).2.2 = 0 then ((findF t n d env).1 + k, (findF t n d env).2.1, 0) else findF t n d env
  | [], d, k => rfl
  | c :: l, d, k => by
    have h := find_add t n l (d + 1) k
    unfold findF
    match hp : placesF (meansB t n) 0 c with
    | [] =>
      show findF t n (d + k + 1) l = _
      rw [show d + k + 1 = d + 1 + k by omega]
      exact h
    | [i] => rfl
    | i :: j :: r => rfl
theorem find_app (t n : ByteArray) (m : List ColV) : ∀ (env : List (List ColV)) (d : Nat), findF t n d (env ++ [m]) = if (findF t n d env).2.2 = 6 then findF t n (d + env.length) [m] else findF t n d env
  | [], d => rfl
  | c :: l, d => by
    have h := find_app t n m l (d + 1)
    rw [List.cons_append, List.length_cons]
    conv => lhs; unfold findF
    conv => rhs; arg 1; unfold findF
    conv => rhs; arg 3; unfold findF
    match hp : placesF (meansB t n) 0 c with
    | [] =>
      show findF t n (d + 1) (l ++ [m]) = _
      rw [h, show d + 1 + l.length = d + (l.length + 1) by omega]
    | [i] => rfl
    | i :: j :: r => rfl
theorem cols_info : (Tryd.prog.info? 28).map (fun i => (i.zero, i.size, i.bytes)) = some (some (.slice none 0 0), 1, 24) := by kernel_rfl
theorem own_max {w : World} {base : Nat} {e : TypeId} {size n c : Nat} {A : Option Addr} {xs : List Value} (h : w.ownsRow base e size (.slice A n c) n xs) : c ≤ maxLen := by
  rcases h.2 with ⟨hv, hz⟩ | ⟨g, cap, cur, hv, _, _, _, hm, _⟩
  · injection hv with _ _ h3
    rw [h3]
    exact Nat.zero_le _
  · injection hv with _ _ h3
    rw [h3]
    exact hm
/-- A row of the call's own that holds slices of columns is an environment. -/
theorem env_of_own {w : World} {base : Nat} {e : TypeId} {v : Value} {ls : List ListV} {env : List (List ColV)} (h : w.ownsRow base e 1 v ls.length (ls.map listVal).flatten) (hl : env.length = ls.length)
    (he : ∀ (i : Nat) m cs, ls[i]? = some m → env[i]? = some cs → ColsAt w w.heap.size m.A m.n m.c cs) : ∃ A c, v = .slice A ls.length c ∧ EnvAt w w.heap.size A ls.length c env := by
  obtain ⟨A, c, rfl, hnc, hA, hC⟩ := own_form h
  exact ⟨A, c, rfl, hl, hnc, own_max h, hA, ls, rfl, ⟨by intro xs hx; obtain ⟨m, _, rfl⟩ := List.mem_map.1 hx; rfl, hC⟩, he⟩
theorem each_kept {w w' : World} {ls : List ListV} {env : List (List ColV)} (h : ∀ (i : Nat) m cs, ls[i]? = some m → env[i]? = some cs → ColsAt w w.heap.size m.A m.n m.c cs) (hb : Below w.heap.size w w') :
    ∀ (i : Nat) m cs, ls[i]? = some m → env[i]? = some cs → ColsAt w' w'.heap.size m.A m.n m.c cs := fun i m cs h1 h2 => (h i m cs h1 h2).kept hb
theorem each_app {w : World} {ls : List ListV} {env : List (List ColV)} {x : ListV} {y : List ColV} (hl : env.length = ls.length) (h : ∀ (i : Nat) m cs, ls[i]? = some m → env[i]? = some cs → ColsAt w w.heap.size m.A m.n m.c cs) (hx : ColsAt w w.heap.size x.A x.n x.c y) :
    ∀ (i : Nat) m cs, (ls ++ [x])[i]? = some m → (env ++ [y])[i]? = some cs → ColsAt w w.heap.size m.A m.n m.c cs := by
  intro i m cs h1 h2
  by_cases hi : i < ls.length
  · rw [List.getElem?_append_left hi] at h1
    rw [List.getElem?_append_left (by omega)] at h2
    exact h i m cs h1 h2
  · rw [List.getElem?_append_right (by omega)] at h1
    rw [List.getElem?_append_right (by omega)] at h2
    have : i - ls.length = 0 := by have := (List.getElem?_eq_some_iff.1 h1).1; simp at this; omega
    rw [hl] at h2
    rw [this] at h1 h2
    simp at h1 h2
    rw [← h1, ← h2]
    exact hx
theorem each_cons {w : World} {ls : List ListV} {env : List (List ColV)} {x : ListV} {y : List ColV} (h : ∀ (i : Nat) m cs, ls[i]? = some m → env[i]? = some cs → ColsAt w w.heap.size m.A m.n m.c cs) (hx : ColsAt w w.heap.size x.A x.n x.c y) :
    ∀ (i : Nat) m cs, (x :: ls)[i]? = some m → (y :: env)[i]? = some cs → ColsAt w w.heap.size m.A m.n m.c cs := by
  intro i m cs h1 h2
  cases i with
  | zero =>
    simp at h1 h2
    rw [← h1, ← h2]
    exact hx
  | succ i => exact h i m cs (by simpa using h1) (by simpa using h2)
theorem own_lit2 (w : World) (o : Obj) (cs : Array Value) (e : TypeId) (n size base : Nat) (hb : base ≤ w.heap.size + 1) (hm : n ≤ maxLen) (hs : cs.size = n * size) :
    ((w.alloc o).alloc (.cells cs e)).ownsRow base e size (.slice (some ⟨w.heap.size + 1, 0, none⟩) n n) n cs.toList := by
  have := World.ownsRow_lit (base := base) (e := e) (size := size) (w.alloc o) cs n (by rw [World.size_alloc]; exact hb) hm hs
  rw [World.size_alloc] at this
  exact this
theorem listVal_flat (ls : List ListV) : (ls.map listVal).flatten = ls.map fun l => .slice l.A l.n l.c := by
  induction ls with
  | nil => rfl
  | cons l r ih => rw [List.map_cons, List.flatten_cons, ih]; rfl
end Go.Proofs.YtjbnhaiiedajjaaDoor

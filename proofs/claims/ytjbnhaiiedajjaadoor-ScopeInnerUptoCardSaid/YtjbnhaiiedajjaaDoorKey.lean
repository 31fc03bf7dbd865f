/- The contracts of key, of the reference's by, and of Bys. -/
import Derived.Test.YtjbnhaiiedajjaaDoorRFind
import Derived.Test.YtjbnhaiiedajjaaDoorStar
namespace Go.Proofs.YtjbnhaiiedajjaaDoor
set_option linter.unusedVariables false
open Go.ChangeShapes Go.WideShapes Go.ChangeAt Go.RowKit

/-- One column of an order. -/
structure OrdV where
  nam : ByteArray
  pos : Int
  dwn : Bool
def ordCells (o : OrdV) : List Value := [.string o.nam, .int .i64 o.pos, .bool o.dwn]
def keyF (cs : List ColV) (o : OrdV) : Int × Int :=
  if o.nam.toList.isEmpty then (if o.pos < 1 ∨ (cs.length : Int) < o.pos then (0, 11) else (o.pos - 1, 0)) else (((findF ⟨#[]⟩ o.nam 0 [cs]).2.1 : Int), (findF ⟨#[]⟩ o.nam 0 [cs]).2.2)
/-- One slice of columns is an environment of one depth, once it stands in a row of its own. -/
theorem env_one {w : World} {A : Option Addr} {n c : Nat} {cs : List ColV} (h : ColsAt w w.heap.size A n c cs) (t : TypeId) : EnvAt (w.alloc (.cells #[.slice A n c] t)) (w.heap.size + 1) (some ⟨w.heap.size, 0, none⟩) 1 1 [cs] := by
  refine ⟨rfl, Nat.le_refl _, by simp [maxLen], by simp, [⟨A, n, c⟩], rfl, ⟨by simp [listVal], ?_⟩, ?_⟩
  · exact cells_lit w #[.slice A n c] t
  · intro i m xs h1 h2
    cases i with
    | zero =>
      simp at h1 h2
      subst h1 h2
      exact (h.below (Bel.one w _)).more (by omega)
    | succ i => simp at h1
set_option maxHeartbeats 1000000 in
theorem key_c (A : Option Addr) (N C : Nat) (cs : List ColV) (o : OrdV) (w : World) (h : ColsAt w w.heap.size A N C cs) (hp : -9223372036854775808 ≤ o.pos ∧ o.pos ≤ 9223372036854775807) :
    Calls Tryd.prog 19 #[.slice A N C, .agg #[.string o.nam, .int .i64 o.pos, .bool o.dwn]] w fun e w' => e = .returned (.tuple #[.int .i64 (keyF cs o).1, .int .i64 (keyF cs o).2]) ∧ Below w.heap.size w w' := by
  obtain ⟨nam, pos, dwn⟩ := o
  simp only at hp
  have hm1 := h.cap
  have hm2 := h.max
  unfold maxLen at hm2
  have hl := h.len
  cases hn : nam.toList.isEmpty with
  | true =>
    have hk : keyF cs ⟨nam, pos, dwn⟩ = if pos < 1 ∨ (N : Int) < pos then (0, 11) else (pos - 1, 0) := by unfold keyF; rw [if_pos hn, hl]
    rw [hk]
    clear hk h hl
    rcases (show pos < 1 ∨ (1 ≤ pos ∧ (N : Int) < pos) ∨ (1 ≤ pos ∧ pos ≤ N) by omega) with h1 | ⟨h1, h2⟩ | ⟨h1, h2⟩
    · rw [if_pos (.inl h1)]
      go_enter Tryd.func19, Tryd.ntmps19
      go_wp2
      go_ret2
      exact ⟨rfl, Bel.one _ _⟩
    · rw [if_pos (.inr h2)]
      go_enter Tryd.func19, Tryd.ntmps19
      go_wp2
      go_ret2
      exact ⟨rfl, Bel.one _ _⟩
    · rw [if_neg (by omega)]
      go_enter Tryd.func19, Tryd.ntmps19
      go_wp2
      go_ret2
      exact ⟨rfl, Bel.one _ _⟩
  | false =>
    have hk : keyF cs ⟨nam, pos, dwn⟩ = (((findF ⟨#[]⟩ nam 0 [cs]).2.1 : Int), (findF ⟨#[]⟩ nam 0 [cs]).2.2) := by unfold keyF; rw [if_neg (by simp [hn])]
    rw [hk]
    have H1 := hide (env_one (h.kept (Bel.one w (.cells #[.string nam, .int .i64 pos, .bool dwn] 54))) 28)
    clear hk h hl
    go_enter Tryd.func19, Tryd.ntmps19
    go_wp2_with fail
    refine (find_c _ _ _ [cs] _ _ _ ?_).mono ?_
    · have := H1.out
      simpa using this
    · rintro e w1 ⟨rfl, hb⟩
      have HB := hide hb
      clear hb
      go_wp2
      go_ret2
      exact ⟨rfl, Bel.then (((Below.refl w.heap.size w).alloc (Nat.le_refl _) _).alloc (by simp) _) HB.out⟩
/-- What by gives. -/
def byV (k : Int × Int) (d : Bool) : Value := .tuple #[.agg #[.int .i64 (if k.2 = 0 then k.1 else 0), .bool (if k.2 = 0 then d else false)], .int .i64 k.2]
set_option maxHeartbeats 1000000 in
theorem by_c (A : Option Addr) (N C : Nat) (cs : List ColV) (o : OrdV) (w : World) (h : ColsAt w w.heap.size A N C cs) (hp : -9223372036854775808 ≤ o.pos ∧ o.pos ≤ 9223372036854775807) (hN : N ≤ 1048576) :
    Calls Tryd.prog 20 #[.slice A N C, .agg #[.string o.nam, .int .i64 o.pos, .bool o.dwn]] w fun e w' => e = .returned (byV (keyF cs o) o.dwn) ∧ Below w.heap.size w w' := by
  obtain ⟨nam, pos, dwn⟩ := o
  simp only at hp
  have hm1 := h.cap
  have hm2 := h.max
  unfold maxLen at hm2
  have hl := h.len
  cases hn : nam.toList.isEmpty with
  | true =>
    have hk : keyF cs ⟨nam, pos, dwn⟩ = if pos < 1 ∨ (N : Int) < pos then (0, 11) else (pos - 1, 0) := by unfold keyF; rw [if_pos hn, hl]
    clear h hl
    rcases (show pos < 1 ∨ (1 ≤ pos ∧ (N : Int) < pos) ∨ (1 ≤ pos ∧ pos ≤ N) by omega) with h1 | ⟨h1, h2⟩ | ⟨h1, h2⟩
    · rw [if_pos (.inl h1)] at hk
      rw [hk]
      clear hk
      go_enter Tryd.func20, Tryd.ntmps20
      go_wp2
      exact bodyPost_ret (v := .tuple #[.agg #[.int .i64 0, .bool false], .int .i64 11]) (by simp [results, Tryd.results20, go_sem]) rfl ⟨rfl, ((Below.refl w.heap.size w).alloc (Nat.le_refl _) _).alloc (by simp) _⟩
    · rw [if_pos (.inr h2)] at hk
      rw [hk]
      clear hk
      go_enter Tryd.func20, Tryd.ntmps20
      go_wp2
      exact bodyPost_ret (v := .tuple #[.agg #[.int .i64 0, .bool false], .int .i64 11]) (by simp [results, Tryd.results20, go_sem]) rfl ⟨rfl, ((Below.refl w.heap.size w).alloc (Nat.le_refl _) _).alloc (by simp) _⟩
    · rw [if_neg (by omega)] at hk
      rw [hk]
      clear hk
      go_enter Tryd.func20, Tryd.ntmps20
      go_wp2
      exact bodyPost_ret (v := .tuple #[.agg #[.int .i64 (pos - 1), .bool dwn], .int .i64 0]) (by simp [results, Tryd.results20, go_sem]) rfl ⟨rfl, ((Below.refl w.heap.size w).alloc (Nat.le_refl _) _).alloc (by simp) _⟩
  | false =>
    have hk : keyF cs ⟨nam, pos, dwn⟩ = (((findF ⟨#[]⟩ nam 0 [cs]).2.1 : Int), (findF ⟨#[]⟩ nam 0 [cs]).2.2) := by unfold keyF; rw [if_neg (by simp [hn])]
    have H0 := hide (env_one (h.kept (((Below.refl w.heap.size w).alloc (Nat.le_refl _) (.cells #[.string nam, .int .i64 pos, .bool dwn] 54)).alloc (by simp) (.cells #[.int .i64 0, .bool false] 56))) 28)
    generalize hr : findF ⟨#[]⟩ nam 0 [cs] = r at *
    have HR := hide hr
    have hl2 : ∀ xs ∈ [cs], xs.length ≤ 1048576 := by intro xs hx; simp at hx; subst hx; omega
    have HL2 := hide hl2
    rw [hk]
    clear hk h hl hr hl2
    obtain ⟨r1, r2, r3⟩ := r
    by_cases h3 : r3 = 0
    · subst h3
      go_enter Tryd.func20, Tryd.ntmps20
      go_wp2_with fail
      refine (rfind_c _ _ _ [cs] _ _ _ ?_ (by omega) HL2.out).mono ?_
      · have := H0.out
        simpa using this
      rintro e w1 ⟨rfl, hb⟩
      have HB := hide hb
      obtain ⟨hc, hf⟩ := bcell hb
      have hz : w.heap.size + 3 ≤ w1.heap.size := by have := hb.size; simp at this; omega
      clear hb
      rw [HR.out]
      go_wp2
      refine bodyPost_ret (v := .tuple #[.agg #[.int .i64 r2, .bool dwn], .int .i64 0]) (by simp [results, Tryd.results20, go_sem, hc]) rfl ⟨rfl, ?_⟩
      exact ((Bel.then ((((Below.refl w.heap.size w).alloc (Nat.le_refl _) _).alloc (by simp) _).alloc (by simp; omega) _) HB.out).setCell (by simp) _).setCell (by simp) _
    · have h3b : (r3 != 0) = true := by simp [h3]
      have h3c : byV ((r2 : Int), r3) dwn = .tuple #[.agg #[.int .i64 0, .bool false], .int .i64 r3] := by simp [byV, h3]
      have H3 := hide h3c
      clear h3c h3
      go_enter Tryd.func20, Tryd.ntmps20
      go_wp2_with fail
      refine (rfind_c _ _ _ [cs] _ _ _ ?_ (by omega) HL2.out).mono ?_
      · have := H0.out
        simpa using this
      rintro e w1 ⟨rfl, hb⟩
      have HB := hide hb
      obtain ⟨hc, hf⟩ := bcell hb
      have hz : w.heap.size + 3 ≤ w1.heap.size := by have := hb.size; simp at this; omega
      clear hb
      rw [HR.out]
      go_wp2
      refine bodyPost_ret (v := .tuple #[.agg #[.int .i64 0, .bool false], .int .i64 r3]) (by simp [results, Tryd.results20, go_sem, hc]) rfl ⟨by rw [H3.out], ?_⟩
      exact ((Bel.then ((((Below.refl w.heap.size w).alloc (Nat.le_refl _) _).alloc (by simp) _).alloc (by simp; omega) _) HB.out).setCell (by simp) _).setCell (by simp) _
end Go.Proofs.YtjbnhaiiedajjaaDoor

/- Lists of runs; the contract of sorter.merged. (For SorterMerges and SorterRuns.) -/
import Derived.Test.YtahdkfenpflahaaSoI
namespace Go.Proofs.Ytahdkfenpflahaa
set_option linter.unusedVariables false
open Go.ChangeShapes Go.WideShapes Go.ChangeAt Go.RowKit

/-- A run: its head, and its rows. -/
abbrev GRun := ListV × List HRow
def gdV (p : GRun) : Value := .slice p.1.A p.1.n p.1.c
def gdC (p : GRun) : List Value := [gdV p]
theorem gdC_flat (ps : List GRun) : (ps.map gdC).flatten = ps.map gdV := by
  induction ps with
  | nil => rfl
  | cons a l ih => rw [List.map_cons, List.flatten_cons, ih]; rfl
structure GsAt (w : World) (A : Option Addr) (n c : Nat) (gs : List GRun) : Prop where
  sl : SlAt gdC 1 w w.heap.size A n c gs
  each : ∀ g ∈ gs, HsAt w g.1.A g.1.n g.1.c g.2
section
variable {w w' : World} {A : Option Addr} {n c : Nat} {gs : List GRun}
theorem GsAt.kept (h : GsAt w A n c gs) (hb : Below w.heap.size w w') : GsAt w' A n c gs := ⟨h.sl.kept hb, fun p hp => (h.each p hp).kept hb⟩
theorem GsAt.cell (h : GsAt w A n c gs) {i : Nat} (hi : i < n) : ∃ b off p, A = some ⟨b, off, none⟩ ∧ b < w.heap.size ∧ gs[i]? = some p ∧ w.cell? ⟨b, off + i, none⟩ = some (gdV p) := by
  obtain ⟨b, off, p, e, hb, hp, hc⟩ := h.sl.at (by omega) hi
  have := hc 0 _ rfl
  rw [Nat.mul_one, Nat.add_zero] at this
  exact ⟨b, off, p, e, hb, hp, this⟩
theorem gs_front {j : Nat} (h : GsAt w A n c gs) (hj : j ≤ n) : GsAt w (fstA c A) j c (gs.take j) := by
  have hl := h.sl.len
  have hc := h.sl.cap
  refine ⟨⟨by rw [List.length_take]; omega, by omega, h.sl.max, fun e => ?_, ⟨?_, fun h0 => ?_⟩⟩, fun p hp => h.each p (List.mem_of_mem_take hp)⟩
  · have : A = none := by
      unfold fstA at e
      split at e
      · exact e
      · exact Option.map_eq_none_iff.1 e
    have := h.sl.nil this
    omega
  · intro xs hx
    obtain ⟨a, _, rfl⟩ := List.mem_map.1 hx
    rfl
  · rw [gdC_flat, List.length_map, List.length_take] at h0
    obtain ⟨b, off, e, hb, hcell⟩ := h.sl.recs.2 (by rw [gdC_flat, List.length_map]; omega)
    subst e
    refine ⟨b, off, ?_, hb, fun i u hu => hcell i u ?_⟩
    · unfold fstA
      rw [if_neg (by omega)]
      show some ((⟨b, off, none⟩ : Addr).add 0) = _
      rw [add_off]
      rfl
    · rw [gdC_flat] at hu ⊢
      rw [List.map_take, List.getElem?_take] at hu
      split at hu
      · exact hu
      · cases hu
theorem gs_back {j : Nat} (h : GsAt w A n c gs) (hj : j ≤ n) : GsAt w (sndA c j A) (n - j) (c - j) (gs.drop j) := by
  have hl := h.sl.len
  have hc := h.sl.cap
  have hm := h.sl.max
  refine ⟨⟨by rw [List.length_drop]; omega, by omega, by omega, fun e => ?_, ⟨?_, fun h0 => ?_⟩⟩, fun p hp => h.each p (List.mem_of_mem_drop hp)⟩
  · unfold sndA at e
    split at e
    · omega
    · have := h.sl.nil (Option.map_eq_none_iff.1 e)
      omega
  · intro xs hx
    obtain ⟨a, _, rfl⟩ := List.mem_map.1 hx
    rfl
  · rw [gdC_flat, List.length_map, List.length_drop] at h0
    obtain ⟨b, off, e, hb, hcell⟩ := h.sl.recs.2 (by rw [gdC_flat, List.length_map]; omega)
    subst e
    refine ⟨b, off + j, ?_, hb, fun i u hu => ?_⟩
    · unfold sndA
      rw [if_neg (by omega)]
      show some ((⟨b, off, none⟩ : Addr).add j) = _
      rw [add_off]
    · rw [Nat.add_assoc]
      refine hcell (j + i) u ?_
      rw [gdC_flat] at hu ⊢
      rw [List.map_drop, List.getElem?_drop] at hu
      exact hu
end
theorem gback_run {c n : Nat} {A : Option Addr} {j : Nat} (hj : j ≤ n) (W : World) : (Instr.slice 36 (.slice A n c) (some (.int .i64 (j : Int))) none none).run Try.prog W = .ok (.slice (sndA c j A) (n - j) (c - j)) W := by
  obtain ⟨i0, hi0, hz0, hz1, hz2⟩ := info_parts rows_info
  rw [run_slice_l (P := Try.prog) W 36 A n c (by kernel_rfl) .i64 (j : Int) (by omega) (by omega)]
  have he : Try.prog.elem 36 = 29 := by kernel_rfl
  rw [he]
  have hs : (sizeOf 29).run Try.prog W = .ok 1 W := by simp [sizeOf, typeInfo, hi0, hz1]
  rw [hs]
  show Result.ok (Value.slice (if c = j then A else A.map (·.add (j * 1))) (n - (j : Int).toNat) (c - (j : Int).toNat)) W = _
  rw [Nat.mul_one]
  rfl
theorem gfront_run {c n : Nat} {A : Option Addr} {k : Nat} (hk : k ≤ c) (W : World) : (Instr.slice 36 (.slice A n c) none (some (.int .i64 (k : Int))) none).run Try.prog W = .ok (.slice (fstA c A) k c) W := by
  obtain ⟨i0, hi0, hz0, hz1, hz2⟩ := info_parts rows_info
  rw [run_slice_h (P := Try.prog) W 36 A n c (by kernel_rfl) .i64 (k : Int) (by omega) (by omega)]
  have he : Try.prog.elem 36 = 29 := by kernel_rfl
  rw [he]
  have hs : (sizeOf 29).run Try.prog W = .ok 1 W := by simp [sizeOf, typeInfo, hi0, hz1]
  rw [hs]
  show Result.ok (Value.slice (if c = 0 then A else A.map (·.add (0 * 1))) ((k : Int).toNat - 0) (c - 0)) W = _
  rfl
/-- Merging by halves. -/
def mergeN {α : Type} (lt : α → α → Bool) : Nat → List (List α) → List α
  | 0, _ => []
  | f + 1, L => if L.length = 0 then [] else if L.length = 1 then L.flatten else mergeL lt (mergeN lt f (L.take (L.length / 2))) (mergeN lt f (L.drop (L.length / 2)))
def sumL {α : Type} (L : List (List α)) : Nat := L.flatten.length
theorem sumL_cut {α : Type} (L : List (List α)) (j : Nat) : sumL (L.take j) + sumL (L.drop j) = sumL L := by
  unfold sumL
  rw [← List.length_append, ← List.flatten_append, List.take_append_drop]
theorem mergeN_len {α : Type} (lt : α → α → Bool) : ∀ (f : Nat) (L : List (List α)), L.length < f → (mergeN lt f L).length = sumL L
  | 0, L, h => absurd h (by omega)
  | f + 1, L, h => by
    rw [mergeN]
    by_cases h0 : L.length = 0
    · rw [if_pos h0, List.eq_nil_of_length_eq_zero h0]; rfl
    · rw [if_neg h0]
      by_cases h1 : L.length = 1
      · rw [if_pos h1]; rfl
      · rw [if_neg h1, mergeL_len, mergeN_len lt f _ (by rw [List.length_take]; omega), mergeN_len lt f _ (by rw [List.length_drop]; omega), sumL_cut]
end Go.Proofs.Ytahdkfenpflahaa

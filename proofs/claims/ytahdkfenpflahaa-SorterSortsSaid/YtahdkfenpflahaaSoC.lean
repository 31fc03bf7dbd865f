/- Rows of rows with their heads told; cuts of them; the contracts of a queue's empty, first and take. -/
import Derived.Test.YtahdkfenpflahaaSoM
import Derived.Test.YtahdkfenpflahaaSoL2
namespace Go.Proofs.Ytahdkfenpflahaa
set_option linter.unusedVariables false
open Go.ChangeShapes Go.WideShapes Go.ChangeAt Go.RowKit

/-- A row: its head, and its values. -/
abbrev HRow := ListV × List ValV
def hdV (p : HRow) : Value := .slice p.1.A p.1.n p.1.c
def hdC (p : HRow) : List Value := [hdV p]
theorem hdC_flat (ps : List HRow) : (ps.map hdC).flatten = ps.map hdV := by
  induction ps with
  | nil => rfl
  | cons a l ih => rw [List.map_cons, List.flatten_cons, ih]; rfl
structure HsAt (w : World) (A : Option Addr) (n c : Nat) (ps : List HRow) : Prop where
  sl : SlAt hdC 1 w w.heap.size A n c ps
  each : ∀ p ∈ ps, RowAt w w.heap.size p.1.A p.1.n p.1.c p.2
section
variable {w w' : World} {A : Option Addr} {n c : Nat} {ps : List HRow}
theorem HsAt.kept (h : HsAt w A n c ps) (hb : Below w.heap.size w w') : HsAt w' A n c ps := ⟨h.sl.kept hb, fun p hp => (h.each p hp).kept hb⟩
theorem HsAt.cell (h : HsAt w A n c ps) {i : Nat} (hi : i < n) : ∃ b off p, A = some ⟨b, off, none⟩ ∧ b < w.heap.size ∧ ps[i]? = some p ∧ w.cell? ⟨b, off + i, none⟩ = some (hdV p) := by
  obtain ⟨b, off, p, e, hb, hp, hc⟩ := h.sl.at (by omega) hi
  have := hc 0 _ rfl
  rw [Nat.mul_one, Nat.add_zero] at this
  exact ⟨b, off, p, e, hb, hp, this⟩
theorem HsAt.of_nest {rows : List (List ValV)} (h : RowsAt w w.heap.size A n c rows) : ∃ ps, HsAt w A n c ps ∧ ps.map Prod.snd = rows := by
  obtain ⟨ls, hl, hr, he⟩ := h.each
  have hn := h.len
  have e1 : (ls.zip rows).map Prod.snd = rows := List.map_snd_zip (by omega)
  have e2 : (ls.zip rows).map Prod.fst = ls := List.map_fst_zip (by omega)
  refine ⟨ls.zip rows, ⟨⟨by rw [List.length_zip]; omega, h.cap, h.max, h.nil, ?_⟩, fun p hp => ?_⟩, e1⟩
  · have e3 : (ls.zip rows).map hdC = ls.map listVal := by
      rw [← congrArg (List.map listVal) e2, List.map_map]
      rfl
    rw [e3]
    exact hr
  · obtain ⟨i, hi⟩ := List.getElem?_of_mem hp
    have h1 : ls[i]? = some p.1 := by rw [← e2, List.getElem?_map, hi]; rfl
    have h2 : rows[i]? = some p.2 := by rw [← e1, List.getElem?_map, hi]; rfl
    exact he i _ _ h1 h2
theorem HsAt.nest (h : HsAt w A n c ps) : RowsAt w w.heap.size A n c (ps.map Prod.snd) := by
  refine ⟨by rw [List.length_map]; exact h.sl.len, h.sl.cap, h.sl.max, h.sl.nil, ps.map Prod.fst, by rw [List.length_map]; exact h.sl.len, ?_, ?_⟩
  · have e : (ps.map Prod.fst).map listVal = ps.map hdC := by rw [List.map_map]; rfl
    rw [e]
    exact h.sl.recs
  · intro i m r h1 h2
    rw [List.getElem?_map] at h1 h2
    obtain ⟨p, hp, rfl⟩ := Option.map_eq_some_iff.1 h1
    rw [hp] at h2
    injection h2 with h2
    subst h2
    exact h.each p (List.mem_of_getElem? hp)
end
/-- The front of a slice. -/
def fstA (c : Nat) (A : Option Addr) : Option Addr := if c = 0 then A else A.map (·.add 0)
def sndA (c j : Nat) (A : Option Addr) : Option Addr := if c = j then A else A.map (·.add j)
theorem hs_front {w : World} {A : Option Addr} {n c j : Nat} {ps : List HRow} (h : HsAt w A n c ps) (hj : j ≤ n) : HsAt w (fstA c A) j c (ps.take j) := by
  have hl := h.sl.len
  have hc := h.sl.cap
  refine ⟨⟨by rw [List.length_take]; omega, by omega, h.sl.max, fun e => ?_, ⟨?_, fun h0 => ?_⟩⟩, fun p hp => h.each p (List.mem_of_mem_take hp)⟩
  · have : A = none := by
      unfold fstA at e
      split at e
      · exact e
      · exact Option.map_eq_none_iff.1 e
    have := h.sl.nil this
    omega
  · intro xs hx
    obtain ⟨a, _, rfl⟩ := List.mem_map.1 hx
    rfl
  · rw [hdC_flat, List.length_map, List.length_take] at h0
    obtain ⟨b, off, e, hb, hcell⟩ := h.sl.recs.2 (by rw [hdC_flat, List.length_map]; omega)
    subst e
    refine ⟨b, off, ?_, hb, fun i u hu => hcell i u ?_⟩
    · unfold fstA
      rw [if_neg (by omega)]
      show some ((⟨b, off, none⟩ : Addr).add 0) = _
      rw [add_off]
      rfl
    · rw [hdC_flat] at hu ⊢
      rw [List.map_take, List.getElem?_take] at hu
      split at hu
      · exact hu
      · cases hu
theorem hs_back {w : World} {A : Option Addr} {n c j : Nat} {ps : List HRow} (h : HsAt w A n c ps) (hj : j ≤ n) : HsAt w (sndA c j A) (n - j) (c - j) (ps.drop j) := by
  have hl := h.sl.len
  have hc := h.sl.cap
  have hm := h.sl.max
  refine ⟨⟨by rw [List.length_drop]; omega, by omega, by omega, fun e => ?_, ⟨?_, fun h0 => ?_⟩⟩, fun p hp => h.each p (List.mem_of_mem_drop hp)⟩
  · unfold sndA at e
    split at e
    · omega
    · have := h.sl.nil (Option.map_eq_none_iff.1 e)
      omega
  · intro xs hx
    obtain ⟨a, _, rfl⟩ := List.mem_map.1 hx
    rfl
  · rw [hdC_flat, List.length_map, List.length_drop] at h0
    obtain ⟨b, off, e, hb, hcell⟩ := h.sl.recs.2 (by rw [hdC_flat, List.length_map]; omega)
    subst e
    refine ⟨b, off + j, ?_, hb, fun i u hu => ?_⟩
    · unfold sndA
      rw [if_neg (by omega)]
      show some ((⟨b, off, none⟩ : Addr).add j) = _
      rw [add_off]
    · rw [Nat.add_assoc]
      refine hcell (j + i) u ?_
      rw [hdC_flat] at hu ⊢
      rw [List.map_drop, List.getElem?_drop] at hu
      exact hu
theorem back_run {c n : Nat} {A : Option Addr} {j : Nat} (hj : j ≤ n) (W : World) : (Instr.slice 29 (.slice A n c) (some (.int .i64 (j : Int))) none none).run Try.prog W = .ok (.slice (sndA c j A) (n - j) (c - j)) W := by
  obtain ⟨i0, hi0, hz0, hz1, hz2⟩ := info_parts row_info
  rw [run_slice_l (P := Try.prog) W 29 A n c (by kernel_rfl) .i64 (j : Int) (by omega) (by omega)]
  have he : Try.prog.elem 29 = 23 := by kernel_rfl
  rw [he]
  have hs : (sizeOf 23).run Try.prog W = .ok 1 W := by simp [sizeOf, typeInfo, hi0, hz1]
  rw [hs]
  show Result.ok (Value.slice (if c = j then A else A.map (·.add (j * 1))) (n - (j : Int).toNat) (c - (j : Int).toNat)) W = _
  rw [Nat.mul_one]
  rfl
theorem front_run {c n : Nat} {A : Option Addr} {k : Nat} (hk : k ≤ c) (W : World) : (Instr.slice 29 (.slice A n c) none (some (.int .i64 (k : Int))) none).run Try.prog W = .ok (.slice (fstA c A) k c) W := by
  obtain ⟨i0, hi0, hz0, hz1, hz2⟩ := info_parts row_info
  rw [run_slice_h (P := Try.prog) W 29 A n c (by kernel_rfl) .i64 (k : Int) (by omega) (by omega)]
  have he : Try.prog.elem 29 = 23 := by kernel_rfl
  rw [he]
  have hs : (sizeOf 23).run Try.prog W = .ok 1 W := by simp [sizeOf, typeInfo, hi0, hz1]
  rw [hs]
  show Result.ok (Value.slice (if c = 0 then A else A.map (·.add (0 * 1))) ((k : Int).toNat - 0) (c - 0)) W = _
  rfl
end Go.Proofs.Ytahdkfenpflahaa

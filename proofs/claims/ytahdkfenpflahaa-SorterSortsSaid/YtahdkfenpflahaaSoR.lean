/- The contract of sorter.Merge. -/
import Derived.Test.YtahdkfenpflahaaSoQ
namespace Go.Proofs.Ytahdkfenpflahaa
set_option linter.unusedVariables false
open Go.ChangeShapes Go.WideShapes Go.ChangeAt Go.RowKit

theorem mergeN_map {α β : Type} {lt : α → α → Bool} {lu : β → β → Bool} (g : α → β) (h : ∀ a b, lt a b = lu (g a) (g b)) : ∀ (f : Nat) (L : List (List α)), (mergeN lt f L).map g = mergeN lu f (L.map (List.map g))
  | 0, L => rfl
  | f + 1, L => by
    rw [mergeN, mergeN, List.length_map]
    split
    · rfl
    · split
      · rw [List.map_flatten]
      · rw [mergeL_map g h, mergeN_map g h f, mergeN_map g h f, List.map_take, List.map_drop]
/-- Runs, merged by keys. -/
def mergeR (ks : List (Int × Bool)) (runs : List (List (List ValV))) : List (List ValV) := mergeN (fun r s => befB r s ks) (runs.length + 1) runs
/-- The rows of runs. -/
def rowsG (gs : List GRun) : List (List (List ValV)) := gs.map fun g => g.2.map Prod.snd
theorem rowsG_eq (gs : List GRun) : (gs.map Prod.snd).map (List.map Prod.snd) = rowsG gs := by
  unfold rowsG
  rw [List.map_map]
  rfl
theorem sumL_rows (gs : List GRun) : sumL (gs.map Prod.snd) = sumL (rowsG gs) := by
  rw [← rowsG_eq]
  unfold sumL
  rw [← List.map_flatten, List.length_map]
set_option maxRecDepth 100000 in
set_option maxHeartbeats 2000000 in
theorem Merge_c (A A3 : Option Addr) (n c n3 c3 : Nat) (gs : List GRun) (ks : List (Int × Bool)) (w : World) (h : GsAt w A n c gs) (hk : KeysAt w w.heap.size A3 n3 c3 ks) (hn : n ≤ 1048576) (hsum : sumL (rowsG gs) ≤ 1048576) (hr : ∀ r ∈ mergeR ks (rowsG gs), r.length ≤ 1048576) :
    Calls Try.prog 20 #[.slice A n c, .slice A3 n3 c3] w fun e w' => ∃ A4 c4, e = .returned (.slice A4 (sumL (rowsG gs)) c4) ∧ RowsAt w' w'.heap.size A4 (sumL (rowsG gs)) c4 (mergeR ks (rowsG gs)) ∧ Below w.heap.size w w' := by
  have hl := h.sl.len
  have Q1 := hide (fun W => by_c A3 n3 c3 W)
  have Q2 := hide (fun (g : Nat) (W : World) (hW : Below w.heap.size w W) (hg : ByBox W g A3 n3 c3) => mergedN_c A3 n3 c3 g ks (gs.length + 1) gs A n c W (by omega) (h.kept hW) hg (hk.kept hW) hn (by rw [sumL_rows]; exact hsum))
  rw [sumL_rows] at Q2
  have hz : (mergeR ks (rowsG gs)).length = sumL (rowsG gs) := mergeN_len _ _ _ (by omega)
  have Q3 := hide (fun (A4 : Option Addr) (c4 : Nat) (W : World) (hs : HsAt W A4 (sumL (rowsG gs)) c4 (mergeN (ltK ks) (gs.length + 1) (gs.map Prod.snd))) => rowsS_c A4 (sumL (rowsG gs)) c4 (mergeR ks (rowsG gs)) W (by
    have := hs.nest
    rw [mergeN_map (lt := ltK ks) (lu := fun r s => befB r s ks) Prod.snd (fun _ _ => rfl), rowsG_eq] at this
    have e : mergeR ks (rowsG gs) = mergeN (fun r s => befB r s ks) (gs.length + 1) (rowsG gs) := by unfold mergeR rowsG; rw [List.length_map]
    rw [e]
    exact this) hsum hr)
  have HZ := hide hz
  generalize mergeR ks (rowsG gs) = S at *
  generalize mergeN (ltK ks) (gs.length + 1) (gs.map Prod.snd) = P at *
  generalize sumL (rowsG gs) = z at *
  clear h hk hr hl hz hsum
  go_enter Try.func20, Try.ntmps20
  go_wp2_with fail
  refine (Q1.out _).mono ?_
  rintro e w1 ⟨g, rfl, hg, hb⟩
  have HB := hide hb
  have HG := hide hg
  clear hb hg
  go_wp2_with fail
  refine (Q2.out _ _ HB.out HG.out).mono ?_
  rintro e w2 ⟨A4, c4, rfl, hs, hb⟩
  replace HB := hide (Bel.then HB.out hb)
  have HS := hide hs
  clear hb hs
  go_wp2_with fail
  refine (Q3.out _ _ _ HS.out).mono ?_
  rintro e w3 ⟨X, cx, rfl, hX, hb, _⟩
  replace HB := hide (Bel.then HB.out hb)
  rw [HZ.out] at hX ⊢
  have HX := hide hX
  clear hb hX
  go_wp2_with fail
  go_ret
  exact ⟨X, cx, rfl, HX.out, HB.out⟩
end Go.Proofs.Ytahdkfenpflahaa

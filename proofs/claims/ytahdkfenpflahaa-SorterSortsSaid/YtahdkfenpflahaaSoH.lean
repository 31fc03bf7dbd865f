/- The contract of sorter.Sort. -/
import Derived.Test.YtahdkfenpflahaaSoG
namespace Go.Proofs.Ytahdkfenpflahaa
set_option linter.unusedVariables false
open Go.ChangeShapes Go.WideShapes Go.ChangeAt Go.RowKit

theorem rowsS_c (A : Option Addr) (n c : Nat) (rows : List (List ValV)) (w : World) (h : RowsAt w w.heap.size A n c rows) (hn : n ≤ 1048576) (hr : ∀ r ∈ rows, r.length ≤ 1048576) :
    Calls Try.prog 28 #[.slice A n c] w fun e w' => GivesNest valCells 3 w rows e w' := by
  have Q := hide (each_c A n c rows w h hn hr)
  clear h hn hr
  go_enter Try.func28, Try.ntmps28
  go_wp2_with fail
  refine Q.out.mono ?_
  rintro e w1 ⟨⟨X, cx, rfl, hX, hb, hf⟩, _⟩
  have HX := hide hX
  clear hX
  go_wp2_with fail
  go_ret
  exact ⟨X, cx, rfl, HX.out, hb, hf⟩
theorem by_c (A : Option Addr) (n c : Nat) (w : World) :
    Calls Try.prog 30 #[.slice A n c] w fun e w' => ∃ g, e = .returned (.func (.func 42) #[] #[.pointer (some ⟨g, 0, none⟩)]) ∧ ByBox w' g A n c ∧ Below w.heap.size w w' := by
  have X := hide (show ByBox (w.alloc (.cells #[.slice A n c] 24)) w.heap.size A n c from heap_alloc_new w _)
  go_enter Try.func30, Try.ntmps30
  go_wp2_with fail
  go_ret
  exact ⟨_, rfl, X.out, Bel.one _ _⟩
/-- Rows, sorted by keys. -/
def sortR (ks : List (Int × Bool)) (rows : List (List ValV)) : List (List ValV) := sortN (fun r s => befB r s ks) rows.length rows
theorem sortR_perm (ks : List (Int × Bool)) (rows : List (List ValV)) : (sortR ks rows).Perm rows := sortN_perm _ _ _
theorem sortR_len (ks : List (Int × Bool)) (rows : List (List ValV)) : (sortR ks rows).length = rows.length := (sortR_perm ks rows).length_eq
set_option maxRecDepth 100000 in
set_option maxHeartbeats 2000000 in
theorem Sort_c (A A3 : Option Addr) (n c n3 c3 : Nat) (rows : List (List ValV)) (ks : List (Int × Bool)) (w : World) (h : RowsAt w w.heap.size A n c rows) (hk : KeysAt w w.heap.size A3 n3 c3 ks) (hn : n ≤ 1048576) (hr : ∀ r ∈ rows, r.length ≤ 1048576) :
    Calls Try.prog 14 #[.slice A n c, .slice A3 n3 c3] w fun e w' => ∃ A4 c4, e = .returned (.slice A4 n c4) ∧ RowsAt w' w'.heap.size A4 n c4 (sortR ks rows) ∧ Below w.heap.size w w' := by
  obtain ⟨ps, hps, hsnd⟩ := HsAt.of_nest h
  have hl := h.len
  have Q1 := hide (fun W => by_c A3 n3 c3 W)
  have Q2 := hide (fun (g : Nat) (W : World) (hW : Below w.heap.size w W) (hg : ByBox W g A3 n3 c3) => sortedN_c A3 n3 c3 g ks rows.length ps A n c W (by rw [hps.sl.len]; omega) (hps.kept hW) hg (hk.kept hW) hn)
  have Q3 := hide (fun (A4 : Option Addr) (c4 : Nat) (W : World) (hs : HsAt W A4 n c4 (sortN (ltK ks) rows.length ps)) => rowsS_c A4 n c4 (sortR ks rows) W (by
    have := hs.nest
    rw [sortN_map (lt := ltK ks) (lu := fun r s => befB r s ks) Prod.snd (fun _ _ => rfl), hsnd] at this
    exact this) hn (fun r hr' => hr r ((sortR_perm ks rows).mem_iff.1 hr')))
  have HLs := hide (sortR_len ks rows)
  rw [hl] at HLs
  generalize sortR ks rows = S at *
  generalize sortN (ltK ks) rows.length ps = P at *
  clear h hps hsnd hk hr hl
  go_enter Try.func14, Try.ntmps14
  go_wp2_with fail
  refine (Q1.out _).mono ?_
  rintro e w1 ⟨g, rfl, hg, hb⟩
  have HB := hide hb
  have HG := hide hg
  clear hb hg
  go_wp2_with fail
  refine (Q2.out _ _ HB.out HG.out).mono ?_
  rintro e w2 ⟨A4, c4, rfl, hs, hb⟩
  replace HB := hide (Bel.then HB.out hb)
  have HS := hide hs
  clear hb hs
  go_wp2_with fail
  refine (Q3.out _ _ _ HS.out).mono ?_
  rintro e w3 ⟨X, cx, rfl, hX, hb, _⟩
  replace HB := hide (Bel.then HB.out hb)
  rw [HLs.out] at hX ⊢
  have HX := hide hX
  clear hb hX
  go_wp2_with fail
  go_ret
  exact ⟨X, cx, rfl, HX.out, HB.out⟩
end Go.Proofs.Ytahdkfenpflahaa

/- Contracts: the version of bytes. -/
import Derived.Test.YtebamnlknaoehaaVrC
import Derived.Test.YtebamnlknaoehaaNest
namespace Go.Proofs.Ytebamnlknaoehaa
set_option linter.unusedVariables false
open Go.ChangeShapes Go.WideShapes Go.ChangeAt Go.RowKit

theorem numU_fold (s : ByteArray) (a : Nat) : ∀ k : Nat, k ≤ 6 → a + k ≤ s.size → numU s (a : Int) k = foldB ((s.data.toList.drop a).take k)
  | 0, _, _ => by simp [numU, foldB]
  | k + 1, hk, h => by
    have ih := numU_fold s a k (by omega) (by omega)
    have hs := fold_small (s.data.toList.drop a) k (by omega)
    have h7 : (256 : Int) ^ 7 = 72057594037927936 := by decide
    rw [h7] at hs
    have e : (((a : Int) + (k : Int)).toNat) = a + k := by omega
    rw [numU, ih, e, byteAt_in (show a + k < s.size by omega), stepU_add _ _ hs.1 hs.2, fold_take (drop_get (show a + k < s.size by omega))]
theorem fold6_wrap (l : List UInt8) (h : l.length = 6) : wrap64 (foldB l) = foldB l := by
  have := fit_iff.1 (num_fit l h)
  unfold wrap64
  omega
theorem oget_c (s : ByteArray) (a : Nat) (ha : a + 6 ≤ s.size) (hm : s.size ≤ 1048576) (w : World) : Calls Try.prog 29 #[.string s, .int .i64 a, .int .i64 6] w fun e w' => e = .returned (.tuple #[.int .i64 (numG s.data.toList a), .bool true]) ∧ w = w' := by
  have h := get_yes s a 6 (by omega) (by omega) (by omega) (by omega) (by omega) w
  rw [show (6 : Int).toNat = 6 from rfl, numU_fold s a 6 (by omega) ha, fold6_wrap _ (by rw [List.length_take, List.length_drop, str_len]; omega)] at h
  exact h
theorem roget_c (s : ByteArray) (a : Nat) (ha : a + 6 ≤ s.size) (hm : s.size ≤ 1048576) (w : World) : Calls Try.prog 31 #[.string s, .int .i64 a, .int .i64 6] w fun e w' => e = .returned (.tuple #[.int .i64 (numG s.data.toList a), .bool true]) ∧ w = w' := by
  have h := rget_yes s a 6 (by omega) (by omega) (by omega) (by omega) (by omega) w
  rw [show (6 : Int).toNat = 6 from rfl, numU_fold s a 6 (by omega) ha, fold6_wrap _ (by rw [List.length_take, List.length_drop, str_len]; omega)] at h
  exact h
/-- A version in a block of its own. -/
def VerBox (w : World) (g : Nat) (a b c : Int) (A : Option Addr) (n k : Nat) : Prop := w.heap[g]? = some (.cells #[.int .i64 a, .int .i64 b, .int .i64 c, .slice A n k] 25 (0, 0))
theorem vb_new (w : World) (a b c : Int) (A : Option Addr) (n k : Nat) : VerBox (w.alloc (.cells #[.int .i64 a, .int .i64 b, .int .i64 c, .slice A n k] 25)) w.heap.size a b c A n k := heap_alloc_new w _
theorem VerBox.kept {w w' : World} {g : Nat} {a b c : Int} {A : Option Addr} {n k : Nat} (h : VerBox w g a b c A n k) (hb : Below w.heap.size w w') : VerBox w' g a b c A n k := (hb.block g (Array.getElem?_eq_some_iff.1 h).1).trans h
theorem VerBox.all {w : World} {g : Nat} {a b c : Int} {A : Option Addr} {n k : Nat} (h : VerBox w g a b c A n k) : (w.cell? ⟨g, 0, none⟩ = some (.int .i64 a) ∧ w.cell? ⟨g, 1, none⟩ = some (.int .i64 b) ∧ w.cell? ⟨g, 2, none⟩ = some (.int .i64 c) ∧ w.cell? ⟨g, 3, none⟩ = some (.slice A n k)) ∧ (w.frozen? ⟨g, 0, none⟩ = false ∧ w.frozen? ⟨g, 1, none⟩ = false ∧ w.frozen? ⟨g, 2, none⟩ = false ∧ w.frozen? ⟨g, 3, none⟩ = false) :=
  ⟨⟨Lib.cell_of_heap h 0, Lib.cell_of_heap h 1, Lib.cell_of_heap h 2, Lib.cell_of_heap h 3⟩, ⟨Lib.frozen_of_heap h 0, Lib.frozen_of_heap h 1, Lib.frozen_of_heap h 2, Lib.frozen_of_heap h 3⟩⟩
def set4 (w : World) (b : Nat) (x y z u : Value) : World := (((w.setCell ⟨b, 0, none⟩ x).setCell ⟨b, 1, none⟩ y).setCell ⟨b, 2, none⟩ z).setCell ⟨b, 3, none⟩ u
theorem VerBox.set4 {w : World} {g : Nat} {a b c : Int} {A : Option Addr} {n k : Nat} (h : VerBox w g a b c A n k) (a2 b2 c2 : Int) (A2 : Option Addr) (n2 k2 : Nat) : VerBox (set4 w g (.int .i64 a2) (.int .i64 b2) (.int .i64 c2) (.slice A2 n2 k2)) g a2 b2 c2 A2 n2 k2 := by
  unfold VerBox Go.Proofs.Ytebamnlknaoehaa.set4 at *
  simp [World.setCell, Array.getElem?_modify, h]
theorem below_set4 {B b : Nat} {w w1 : World} (h : Below B w w1) (hb : B ≤ b) (x y z u : Value) : Below B w (set4 w1 b x y z u) :=
  (((h.setCell (p := ⟨b, 0, none⟩) hb x).setCell (p := ⟨b, 1, none⟩) hb y).setCell (p := ⟨b, 2, none⟩) hb z).setCell (p := ⟨b, 3, none⟩) hb u
theorem row_set4 {w : World} {A : Option Addr} {n k b : Nat} {r : List ValV} (h : RowAt w w.heap.size A n k r) (hne : FreshA (b + 1) A) (x y z u : Value) : RowAt (set4 w b x y z u) (set4 w b x y z u).heap.size A n k r := by
  unfold set4
  simp only [World.size_setCell]
  exact SlAt.set (SlAt.set (SlAt.set (SlAt.set h (p := ⟨b, 0, none⟩) hne _) (p := ⟨b, 1, none⟩) hne _) (p := ⟨b, 2, none⟩) hne _) (p := ⟨b, 3, none⟩) hne _
theorem end_ver {f : Func} {p y : Tmp} (hf : f.results = #[.cell p 25, .tmp y]) {a : Act} {w : World} {b : Nat} {v1 v2 v3 : Int} {A : Option Addr} {n k : Nat} {Q : Ending → World → Prop} (hp : a.tmps.getD p undef = .pointer (some ⟨b, 0, none⟩)) (hd : a.defers = []) (hx : VerBox w b v1 v2 v3 A n k) {y1 : Value} (h1 : a.tmps.getD y undef = y1)
    (hq : Q (.returned (.tuple #[verAgg v1 v2 v3 A n k, y1])) w) : bodyPost Try.prog f Q .ret a w := by
  refine bodyPost_ret (v := .tuple #[verAgg v1 v2 v3 A n k, y1]) ?_ hd hq
  have hl := run_loadVar_row (P := Try.prog) w b 25 25 _ (0, 0) _ hx Try.underlying25 rfl (by kernel_rfl)
  have hp' : a.tmps[p]?.getD undef = .pointer (some ⟨b, 0, none⟩) := by simpa using hp
  have h1' : a.tmps[y]?.getD undef = y1 := by simpa using h1
  simp [results, hf, hp', asAddr, hl, h1', verAgg, Result.andThen]
/-- What Get gives. -/
def GivesV (w : World) (x : VerG) (e : Ending) (w' : World) : Prop := ∃ A k, e = .returned (.tuple #[verAgg x.row x.frm x.too A x.data.length k, .int .i64 x.err]) ∧ RowAt w' w'.heap.size A x.data.length k x.data ∧ Below w.heap.size w w'
theorem givesV_err (w w' : World) (e : Int) (hb : Below w.heap.size w w') : GivesV w ⟨e, 0, 0, 0, []⟩ (.returned (.tuple #[verAgg 0 0 0 none 0 0, .int .i64 e])) w' := ⟨none, 0, rfl, SlAt.empty _ _ _ _, hb⟩
theorem sub18 (s : ByteArray) (h : 18 ≤ s.size) (hm : s.size ≤ 1048576) : (∀ W, (Instr.slice 9 (.string s) (some (.int .i64 18)) none none).run Try.prog W = .ok (.string (s.extract 18 s.size)) W) ∧ (s.extract 18 s.size).data.toList = s.data.toList.drop 18 ∧ (s.extract 18 s.size).size ≤ 1048576 := by
  refine ⟨fun W => ?_, ?_, ?_⟩
  · rw [run_slice_string_l (P := Try.prog) W 9 s Try.underlying9 .i64 18 (by omega) (by omega)]
    rfl
  · rw [extract_take s _ _ h, List.take_of_length_le (by rw [List.length_drop, str_len]; omega)]
  · rw [ByteArray.size_extract]; omega
set_option maxRecDepth 100000 in
set_option maxHeartbeats 1000000 in
theorem vget_c (s : ByteArray) (w : World) (hm : s.size ≤ 1048576) :
    Calls Try.prog 11 #[.string s] w (GivesV w (getVG s.data.toList)) := by
  have hl := str_len s
  unfold getVG
  by_cases h4 : 400 < s.size
  · rw [if_pos (by omega)]
    go_enter Try.func11, Try.ntmps11
    go_wp2_with fail
    exact end_ver Try.results11 rfl rfl (vb_new w 0 0 0 none 0 0) rfl (givesV_err _ _ _ (Bel.one _ _))
  · rw [if_neg (by omega)]
    by_cases h18 : s.size < 18
    · rw [if_pos (by omega)]
      go_enter Try.func11, Try.ntmps11
      go_wp2_with fail
      exact end_ver Try.results11 rfl rfl (vb_new w 0 0 0 none 0 0) rfl (givesV_err _ _ _ (Bel.one _ _))
    · rw [if_neg (by omega)]
      obtain ⟨hsl, hd, hz⟩ := sub18 s (by omega) hm
      have QG := hide (fun W => getR_c (s.extract 18 s.size) W hz)
      rw [hd] at QG
      generalize s.extract 18 s.size = t at *
      have herr := get_err (s.data.toList.drop 18)
      generalize getG (s.data.toList.drop 18) = x at *
      obtain ⟨x1, x2⟩ := x
      have Q1 := hide (fun W => oget_c s 0 (by omega) hm W)
      have Q2 := hide (fun W => oget_c s 6 (by omega) hm W)
      have Q3 := hide (fun W => oget_c s 12 (by omega) hm W)
      generalize numG s.data.toList 0 = a at *
      generalize numG s.data.toList 6 = b at *
      generalize numG s.data.toList 12 = c at *
      clear hd hz hl
      by_cases h0 : x1 = 0
      · subst h0
        simp only [if_true]
        go_enter Try.func11, Try.ntmps11
        go_wp2_with fail
        refine (QG.out _).mono ?_
        rintro e w1 ⟨A, k, rfl, ⟨hr, hf⟩, hb⟩
        have HX := hide ((vb_new w 0 0 0 none 0 0).kept hb)
        have HB := hide (Bel.then (Bel.one w _) hb)
        have HR := hide hr
        have HF := hide hf
        clear hb hr hf QG
        simp only at HR
        obtain ⟨⟨k0, k1, k2, k3⟩, ⟨y0, y1, y2, y3⟩⟩ := HX.out.all
        have hlt : w.heap.size < w1.heap.size := (Array.getElem?_eq_some_iff.1 HX.out).1
        have hne : ¬ w1.heap.size = w.heap.size := by omega
        go_wp2_with fail
        refine (Q1.out _).mono ?_
        rintro e w2 ⟨rfl, rfl⟩
        go_wp2_with fail
        refine (Q2.out _).mono ?_
        rintro e w2 ⟨rfl, rfl⟩
        go_wp2_with fail
        refine (Q3.out _).mono ?_
        rintro e w2 ⟨rfl, rfl⟩
        go_wp2_with fail
        have HV := hide (HX.out.set4 a b c A x2.length k)
        have HW := hide (row_set4 (b := w.heap.size) HR.out (by rw [← World.size_alloc]; exact HF.out) (.int .i64 a) (.int .i64 b) (.int .i64 c) (.slice A x2.length k))
        have HB4 := hide (below_set4 (b := w.heap.size) HB.out (Nat.le_refl _) (.int .i64 a) (.int .i64 b) (.int .i64 c) (.slice A x2.length k))
        exact end_ver Try.results11 rfl rfl (HV.out.kept (Bel.one _ _)) rfl ⟨A, k, rfl, HW.out.kept (Bel.one _ _), HB4.out.alloc HB4.out.size _⟩
      · have hx2 : x2 = [] := by
          rcases herr with h | ⟨_, h⟩
          · exact absurd h h0
          · exact h
        subst hx2
        have h00 : (x1 == 0) = false := by simpa using h0
        rw [if_neg h0]
        go_enter Try.func11, Try.ntmps11
        go_wp2_with fail
        refine (QG.out _).mono ?_
        rintro e w1 ⟨A, k, rfl, _, hb⟩
        have HX := hide ((vb_new w 0 0 0 none 0 0).kept hb)
        have HB := hide (Bel.then (Bel.one w _) hb)
        clear hb QG
        simp only [List.length_nil]
        obtain ⟨⟨k0, k1, k2, k3⟩, ⟨y0, y1, y2, y3⟩⟩ := HX.out.all
        go_wp2_with fail
        exact end_ver Try.results11 rfl rfl (HX.out.set4 0 0 0 none 0 0) rfl (givesV_err _ _ _ (below_set4 HB.out (Nat.le_refl _) _ _ _ _))
set_option maxRecDepth 100000 in
set_option maxHeartbeats 1000000 in
theorem rvget_c (s : ByteArray) (w : World) (hm : s.size ≤ 1048576) :
    Calls Try.prog 12 #[.string s] w (GivesV w (getVG s.data.toList)) := by
  have hl := str_len s
  unfold getVG
  by_cases h4 : 400 < s.size
  · rw [if_pos (by omega)]
    go_enter Try.func12, Try.ntmps12
    go_wp2_with fail
    exact end_ver Try.results12 rfl rfl (vb_new w 0 0 0 none 0 0) rfl (givesV_err _ _ _ (Bel.one _ _))
  · rw [if_neg (by omega)]
    by_cases h18 : s.size < 18
    · rw [if_pos (by omega)]
      go_enter Try.func12, Try.ntmps12
      go_wp2_with fail
      exact end_ver Try.results12 rfl rfl (vb_new w 0 0 0 none 0 0) rfl (givesV_err _ _ _ (Bel.one _ _))
    · rw [if_neg (by omega)]
      obtain ⟨hsl, hd, hz⟩ := sub18 s (by omega) hm
      have QG := hide (fun W => rgetR_c (s.extract 18 s.size) W hz)
      rw [hd] at QG
      generalize s.extract 18 s.size = t at *
      have herr := get_err (s.data.toList.drop 18)
      generalize getG (s.data.toList.drop 18) = x at *
      obtain ⟨x1, x2⟩ := x
      have Q1 := hide (fun W => roget_c s 0 (by omega) hm W)
      have Q2 := hide (fun W => roget_c s 6 (by omega) hm W)
      have Q3 := hide (fun W => roget_c s 12 (by omega) hm W)
      generalize numG s.data.toList 0 = a at *
      generalize numG s.data.toList 6 = b at *
      generalize numG s.data.toList 12 = c at *
      clear hd hz hl
      by_cases h0 : x1 = 0
      · subst h0
        simp only [if_true]
        go_enter Try.func12, Try.ntmps12
        go_wp2_with fail
        refine (QG.out _).mono ?_
        rintro e w1 ⟨A, k, rfl, ⟨hr, hf⟩, hb⟩
        have HX := hide ((vb_new w 0 0 0 none 0 0).kept hb)
        have HB := hide (Bel.then (Bel.one w _) hb)
        have HR := hide hr
        have HF := hide hf
        clear hb hr hf QG
        simp only at HR
        obtain ⟨⟨k0, k1, k2, k3⟩, ⟨y0, y1, y2, y3⟩⟩ := HX.out.all
        have hlt : w.heap.size < w1.heap.size := (Array.getElem?_eq_some_iff.1 HX.out).1
        have hne : ¬ w1.heap.size = w.heap.size := by omega
        go_wp2_with fail
        refine (Q1.out _).mono ?_
        rintro e w2 ⟨rfl, rfl⟩
        go_wp2_with fail
        refine (Q2.out _).mono ?_
        rintro e w2 ⟨rfl, rfl⟩
        go_wp2_with fail
        refine (Q3.out _).mono ?_
        rintro e w2 ⟨rfl, rfl⟩
        go_wp2_with fail
        have HV := hide (HX.out.set4 a b c A x2.length k)
        have HW := hide (row_set4 (b := w.heap.size) HR.out (by rw [← World.size_alloc]; exact HF.out) (.int .i64 a) (.int .i64 b) (.int .i64 c) (.slice A x2.length k))
        have HB4 := hide (below_set4 (b := w.heap.size) HB.out (Nat.le_refl _) (.int .i64 a) (.int .i64 b) (.int .i64 c) (.slice A x2.length k))
        exact end_ver Try.results12 rfl rfl HV.out rfl ⟨A, k, rfl, HW.out, HB4.out⟩
      · have hx2 : x2 = [] := by
          rcases herr with h | ⟨_, h⟩
          · exact absurd h h0
          · exact h
        subst hx2
        have h00 : (x1 == 0) = false := by simpa using h0
        rw [if_neg h0]
        go_enter Try.func12, Try.ntmps12
        go_wp2_with fail
        refine (QG.out _).mono ?_
        rintro e w1 ⟨A, k, rfl, _, hb⟩
        have HX := hide ((vb_new w 0 0 0 none 0 0).kept hb)
        have HB := hide (Bel.then (Bel.one w _) hb)
        clear hb QG
        simp only [List.length_nil]
        obtain ⟨⟨k0, k1, k2, k3⟩, ⟨y0, y1, y2, y3⟩⟩ := HX.out.all
        go_wp2_with fail
        exact end_ver Try.results12 rfl rfl (HX.out.set4 0 0 0 none 0 0) rfl (givesV_err _ _ _ (below_set4 HB.out (Nat.le_refl _) _ _ _ _))
end Go.Proofs.Ytebamnlknaoehaa

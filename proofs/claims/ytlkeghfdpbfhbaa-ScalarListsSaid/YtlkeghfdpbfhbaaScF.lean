/- The contracts of scalar.Apply. -/
import Derived.Test.YtlkeghfdpbfhbaaScE
import Derived.StillTailTactics
namespace Go.Proofs.Ytlkeghfdpbfhbaa
set_option linter.unusedVariables false
open Go.ChangeShapes Go.WideShapes Go.ChangeAt Go.RowKit

/-- The elements of a short row. -/
theorem row_get {w : World} {A : Option Addr} {n c : Nat} {l : List ValV} (h : RowV w w.heap.size A n c l) (h0 : 0 < n) : ∃ b off, A = some ⟨b, off, none⟩ ∧ b < w.heap.size ∧ ∀ i v, l[i]? = some v → ∀ j u, (valCells v)[j]? = some u → w.cell? ⟨b, off + (i * 3 + j), none⟩ = some u := by
  obtain ⟨b, off, e, hlt, hc⟩ := h.recs.at (by omega) (by rw [List.length_map, h.len]; exact h0)
  exact ⟨b, off, e, hlt, fun i v hv j u hu => hc i _ j u (by rw [List.getElem?_map, hv]; rfl) hu⟩
/-- A value's cells in memory. -/
structure Cl (w : World) (b p : Nat) (k n : Int) (s : ByteArray) : Prop where
  lt : b < w.heap.size
  c0 : w.cell? ⟨b, p, none⟩ = some (.int .i64 k)
  c1 : w.cell? ⟨b, p + 1, none⟩ = some (.int .i64 n)
  c2 : w.cell? ⟨b, p + 2, none⟩ = some (.string s)
theorem Cl.kept {w w' : World} {b p : Nat} {k n : Int} {s : ByteArray} (h : Cl w b p k n s) (hb : Below w.heap.size w w') : Cl w' b p k n s := by
  have e := hb.block b h.lt
  exact ⟨Nat.lt_of_lt_of_le h.lt hb.size, (World.cell?_of_block e).trans h.c0, (World.cell?_of_block e).trans h.c1, (World.cell?_of_block e).trans h.c2⟩
theorem Cl.far {w : World} {b p : Nat} {k n : Int} {s : ByteArray} (h : Cl w b p k n s) {g : Nat} (hne : g ≠ b) (u : ValV) : Cl (setV w g u) b p k n s := by
  have e : (setV w g u).heap[b]? = w.heap[b]? := by
    unfold setV
    simp [World.setCell, Array.getElem?_modify, hne]
  have hl := h.lt
  refine ⟨?_, (World.cell?_of_block e).trans h.c0, (World.cell?_of_block e).trans h.c1, (World.cell?_of_block e).trans h.c2⟩
  unfold setV
  simpa [World.setCell] using hl
set_option maxRecDepth 100000 in
set_option maxHeartbeats 4000000 in
theorem apply1_c (op : Int) (hop : op = 3 ∨ op = 4 ∨ op = 19) (nm : ByteArray) (a : ValV) (A : Option Addr) (c : Nat) (w : World) (h : RowV w w.heap.size A 1 c [a]) : Calls Try.prog 10 #[.int .i64 op, .string nm, .slice A 1 c] w (GivesV w (unV op a)) := by
  have HX := hide (vb_one w)
  have HB := hide (Bel.one w zO)
  have HR := hide (h.kept (Bel.one w zO))
  clear h
  have Q := hide (fun W => unary_c op a W)
  generalize unV op a = r at *
  obtain ⟨k, n, s⟩ := a
  unfold valAgg at Q
  simp only at Q
  rcases hop with rfl | rfl | rfl
  all_goals
    go_enter Try.func10, Try.ntmps10
    go_upto_region 1 with (fail)
    generalize w.alloc (.cells #[.int .i64 0, .int .i64 0, .string { data := #[] }] 26) = w1 at *
    obtain ⟨blk, off, rfl, hlt, hcc⟩ := row_get HR.out (by omega)
    have hc0 := hcc 0 _ rfl
    have l0 := hc0 0 _ rfl
    have l1 := hc0 1 _ rfl
    have l2 := hc0 2 _ rfl
    simp only [Nat.zero_mul, Nat.zero_add, Nat.add_zero] at l0 l1 l2
    clear hcc hc0 hlt
    go_wp2_with fail
    refine (Q.out _).mono ?_
    rintro e w2 ⟨rfl, hb⟩
    replace HX := hide (HX.out.kept hb)
    replace HB := hide (Bel.then HB.out hb)
    clear hb
    obtain ⟨⟨c0, c1, c2⟩, ⟨y0, y1, y2⟩⟩ := HX.out.all
    have HS := hide (HX.out.set3 (r))
    have HBS := hide (below_setV HB.out (Nat.le_refl _) (r))
    clear HX HB 
    unfold valAgg
    go_wp2_with fail
    exact end_v Try.results10 rfl rfl HS.out ⟨rfl, HBS.out⟩
set_option maxRecDepth 100000 in
set_option maxHeartbeats 8000000 in
theorem apply2_c (op : Int) (hop : (5 ≤ op ∧ op ≤ 18) ∨ op = 20) (nm : ByteArray) (a b : ValV) (A : Option Addr) (c : Nat) (w : World) (h : RowV w w.heap.size A 2 c [a, b]) (hsz : op = 10 ∨ op = 20 → a.str.size ≤ 1048576 ∧ b.str.size ≤ 1048576) : Calls Try.prog 10 #[.int .i64 op, .string nm, .slice A 2 c] w (GivesV w (binV op a b)) := by
  have HX := hide (vb_one w)
  have HB := hide (Bel.one w zO)
  have HR := hide (h.kept (Bel.one w zO))
  clear h
  have Q := hide (fun W => binary_c op a b W hsz)
  generalize binV op a b = r at *
  obtain ⟨k, n, s⟩ := a
  obtain ⟨k2, n2, s2⟩ := b
  unfold valAgg at Q
  simp only at Q
  clear hsz
  rcases (show op = 5 ∨ op = 6 ∨ op = 7 ∨ op = 8 ∨ op = 9 ∨ op = 10 ∨ op = 11 ∨ op = 12 ∨ op = 13 ∨ op = 14 ∨ op = 15 ∨ op = 16 ∨ op = 17 ∨ op = 18 ∨ op = 20 by omega) with rfl | rfl | rfl | rfl | rfl | rfl | rfl | rfl | rfl | rfl | rfl | rfl | rfl | rfl | rfl
  all_goals
    clear hop
    go_enter Try.func10, Try.ntmps10
    go_upto_region 1 with (fail)
    generalize w.alloc (.cells #[.int .i64 0, .int .i64 0, .string { data := #[] }] 26) = w1 at *
    obtain ⟨blk, off, rfl, hlt, hcc⟩ := row_get HR.out (by omega)
    have hc0 := hcc 0 _ rfl
    have hc1 := hcc 1 _ rfl
    have l0 := hc0 0 _ rfl
    have l1 := hc0 1 _ rfl
    have l2 := hc0 2 _ rfl
    simp only [Nat.zero_mul, Nat.zero_add, Nat.add_zero] at l0 l1 l2
    have m0 := hc1 0 _ rfl
    have m1 := hc1 1 _ rfl
    have m2 := hc1 2 _ rfl
    simp only [Nat.one_mul, Nat.add_zero, Nat.reduceAdd] at m0 m1 m2
    clear hcc hc0 hc1 hlt
    go_upto_region 23 with (fail)
    go_still_tail 7, (by kernel_rfl)
    go_wp2_with fail
    refine (Q.out _).mono ?_
    rintro e w2 ⟨rfl, hb⟩
    replace HX := hide (VB.kept (show VB w1.drew w.heap.size nullV from HX.out) hb)
    replace HB := hide (Bel.then HB.out.drew hb)
    clear hb
    obtain ⟨⟨c0, c1, c2⟩, ⟨y0, y1, y2⟩⟩ := HX.out.all
    have HS := hide (HX.out.set3 (r))
    have HBS := hide (below_setV HB.out (Nat.le_refl _) (r))
    clear HX HB 
    unfold valAgg
    go_wp2_with fail
    exact end_v Try.results10 rfl rfl HS.out ⟨rfl, HBS.out⟩
end Go.Proofs.Ytlkeghfdpbfhbaa

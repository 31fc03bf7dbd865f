/- The contracts of scalar.Eval for a constant, a column, a comparison of two such; of Truth. -/
import Derived.Test.YtlkeghfdpbfhbaaScG
import Derived.Handy
namespace Go.Proofs.Ytlkeghfdpbfhbaa
set_option linter.unusedVariables false
open Go.ChangeShapes Go.WideShapes Go.ChangeAt Go.RowKit

/-- A block that holds an object. -/
def Hp (w : World) (g : Nat) (cs : Array Value) (t : TypeId) : Prop := w.heap[g]? = some (.cells cs t (0, 0))
section
variable {w w' : World} {B g : Nat} {cs : Array Value} {t : TypeId}
theorem Hp.lt (h : Hp w g cs t) : g < w.heap.size := (Array.getElem?_eq_some_iff.1 h).1
theorem Hp.kept (h : Hp w g cs t) (hb : Below w.heap.size w w') : Hp w' g cs t := (hb.block g h.lt).trans h
theorem Hp.kept2 (h : Hp w g cs t) (hb : Below B w w') (hg : g < B) : Hp w' g cs t := (hb.block g hg).trans h
end
theorem hp_far {w : World} {g b : Nat} {cs : Array Value} {t : TypeId} (h : Hp w g cs t) (hne : b ≠ g) (u : ValV) : Hp (setV w b u) g cs t := by
  unfold Hp setV at *
  simp [World.setCell, Array.getElem?_modify, h, hne]
theorem hp_new (w : World) (cs : Array Value) (t : TypeId) : Hp (w.alloc (.cells cs t)) w.heap.size cs t := heap_alloc_new w _
/-- A row in a block of its own. -/
theorem row_blk {w : World} {g n : Nat} {cs : Array Value} {t : TypeId} {l : List ValV} (h : Hp w g cs t) (hcs : cs.toList = (l.map valCells).flatten) (hl : l.length = n) (hm : n ≤ maxLen) : RowV w w.heap.size (some ⟨g, 0, none⟩) n n l := by
  refine ⟨hl, Nat.le_refl _, hm, (by simp), ⟨by intro xs hx; obtain ⟨x, _, rfl⟩ := List.mem_map.1 hx; rfl, fun hn => ⟨g, 0, rfl, h.lt, fun i u hu => ?_⟩⟩⟩
  rw [Nat.zero_add]
  have h1 := cell_of_row w g i cs t (0, 0) h
  rw [h1, ← hu, ← hcs]
  simp
theorem end_v2 {f : Func} {p : Tmp} (hf : f.results = #[.cell p 26]) {a : Act} {w : World} {b : Nat} {v : ValV} {Q : Ending → World → Prop} (hp : a.tmps.getD p undef = .pointer (some ⟨b, 0, none⟩)) (hd : a.defers = []) (hx : VB w b v) (hq : Q (.returned (valAgg v)) w) : bodyPost Try.prog f Q .ret a w := end_v hf hp hd hx hq
/-- A term's value. -/
def trmAgg (op k n : Int) (s : ByteArray) (dp at_ : Int) (nm : ByteArray) (kids sub : Value) (ty : Int) : Value := .agg #[.int .i64 op, .int .i64 k, .int .i64 n, .string s, .int .i64 dp, .int .i64 at_, .string nm, kids, sub, .int .i64 ty]
abbrev trmCs (op k n : Int) (s : ByteArray) (dp at_ : Int) (nm : ByteArray) (kids sub : Value) (ty : Int) : Array Value := #[.int .i64 op, .int .i64 k, .int .i64 n, .string s, .int .i64 dp, .int .i64 at_, .string nm, kids, sub, .int .i64 ty]
theorem trm_two (w : World) (cs : Array Value) : Hp ((w.alloc (.cells cs 32)).alloc zO) w.heap.size cs 32 ∧ VB ((w.alloc (.cells cs 32)).alloc zO) (w.heap.size + 1) nullV ∧ Below w.heap.size w ((w.alloc (.cells cs 32)).alloc zO) := by
  have e : (w.alloc (.cells cs 32)).heap.size = w.heap.size + 1 := World.size_alloc _ _
  refine ⟨(hp_new w cs _).kept (Bel.one _ _), ?_, (Bel.one w _).alloc (Bel.one w _).size _⟩
  rw [← e]
  exact vb_one _
set_option maxRecDepth 100000 in
set_option maxHeartbeats 2000000 in
theorem evalc_c (k n : Int) (s : ByteArray) (dp at_ : Int) (nm : ByteArray) (kids sub : Value) (ty : Int) (e : Value) (w : World) : Calls Try.prog 14 #[trmAgg 1 k n s dp at_ nm kids sub ty, e] w (GivesV w ⟨k, n, s⟩) := by
  obtain ⟨h1, h2, h3⟩ := trm_two w (trmCs 1 k n s dp at_ nm kids sub ty)
  have l0 := Lib.cell_of_heap h1 0
  have l1 := Lib.cell_of_heap h1 1
  have l2 := Lib.cell_of_heap h1 2
  have l3 := Lib.cell_of_heap h1 3
  obtain ⟨⟨c0, c1, c2⟩, ⟨y0, y1, y2⟩⟩ := h2.all
  have HS := hide (h2.set3 ⟨k, n, s⟩)
  have HBS := hide (below_setV h3 (show w.heap.size ≤ w.heap.size + 1 by omega) ⟨k, n, s⟩)
  clear h1 h2 h3
  unfold trmAgg
  go_enter Try.func14, Try.ntmps14
  go_upto_region 1 with (fail)
  generalize (w.alloc (.cells #[.int .i64 1, .int .i64 k, .int .i64 n, .string s, .int .i64 dp, .int .i64 at_, .string nm, kids, sub, .int .i64 ty] 32)).alloc (.cells #[.int .i64 0, .int .i64 0, .string { data := #[] }] 26) = w1 at *
  go_wp2_with fail
  exact end_v Try.results14 rfl rfl HS.out ⟨rfl, HBS.out⟩
set_option maxRecDepth 100000 in
set_option maxHeartbeats 2000000 in
theorem evalcol_c (i : Nat) (k n : Int) (s : ByteArray) (nm : ByteArray) (kids sub : Value) (ty : Int) (eb : Nat) (ec : Nat) (A : Option Addr) (m c : Nat) (l : List ValV) (v : ValV) (w : World)
    (he : w.cell? ⟨eb, 0, none⟩ = some (.slice A m c)) (hr : RowV w w.heap.size A m c l) (hv : l[i]? = some v) : Calls Try.prog 14 #[trmAgg 2 k n s 0 i nm kids sub ty, .slice (some ⟨eb, 0, none⟩) 1 ec] w (GivesV w v) := by
  have him : i < m := by have := (List.getElem?_eq_some_iff.1 hv).1; have := hr.len; omega
  have hmx := Nat.le_trans hr.cap hr.max
  unfold maxLen at hmx
  obtain ⟨h1, h2, h3⟩ := trm_two w (trmCs 2 k n s 0 i nm kids sub ty)
  obtain ⟨blk, off, x, rfl, _, hx, hc⟩ := hr.at (by omega) him
  rw [hv] at hx
  injection hx with hx
  subst hx
  have m0 := kept h3 (hc 0 _ rfl)
  have m1 := kept h3 (hc 1 _ rfl)
  have m2 := kept h3 (hc 2 _ rfl)
  have me := kept h3 he
  rw [Nat.add_zero] at m0
  rw [← Nat.add_assoc] at m1 m2
  have i0 : ¬ (i : Int) < 0 := by omega
  have i1 : (i : Int) < m := by omega
  have i2 : ¬ (m : Int) ≤ (i : Int) := by omega
  have l0 := Lib.cell_of_heap h1 0
  have l4 := Lib.cell_of_heap h1 4
  have l5 := Lib.cell_of_heap h1 5
  obtain ⟨⟨c0, c1, c2⟩, ⟨y0, y1, y2⟩⟩ := h2.all
  have HS := hide (h2.set3 v)
  have HBS := hide (below_setV h3 (show w.heap.size ≤ w.heap.size + 1 by omega) v)
  have HX := hide h2
  have HB := hide h3
  have H1 := hide h1
  have HE := hide he
  have M0 : Hid (w.cell? ⟨blk, off + i * 3, none⟩ = some (.int .i64 v.kind)) := by have := hc 0 _ rfl; rw [Nat.add_zero] at this; exact this
  have M1 : Hid (w.cell? ⟨blk, off + i * 3 + 1, none⟩ = some (.int .i64 v.num)) := by have := hc 1 _ rfl; rw [← Nat.add_assoc] at this; exact this
  have M2 : Hid (w.cell? ⟨blk, off + i * 3 + 2, none⟩ = some (.string v.str)) := by have := hc 2 _ rfl; rw [← Nat.add_assoc] at this; exact this
  clear h1 h2 h3 hc hv hr he
  unfold trmAgg
  go_enter Try.func14, Try.ntmps14
  go_upto_region 1 with (fail)
  generalize (w.alloc (.cells #[.int .i64 2, .int .i64 k, .int .i64 n, .string s, .int .i64 0, .int .i64 i, .string nm, kids, sub, .int .i64 ty] 32)).alloc (.cells #[.int .i64 0, .int .i64 0, .string { data := #[] }] 26) = w1 at *
  clear HS HBS
  go_upto_region 5 with (fail)
  go_quiet (fail)
  go_upto_region 7 with (fail)
  refine wp_region_held_drew (S := (fun w' => Hp w' w.heap.size (trmCs 2 k n s 0 i nm kids sub ty) 32 ∧ (∃ u, VB w' (w.heap.size + 1) u) ∧ Below w.heap.size w w')) (by kernel_rfl) (⟨H1.out, ⟨_, HX.out⟩, (Bel.drewN HB.out _).drew⟩) (fun hHeld => ?_)
  first | (refine wpAnyH_take (i := 0) (v := ?_) nth0 (by kernel_rfl) (by kernel_rfl) (by kernel_rfl) (fun _ _ _ h => h) (Or.inl ⟨by rfl, ?_⟩) hHeld ?_; rotate_left; focus (intro wS hSw; (have l4 := Lib.cell_of_heap hSw.1 4; have l5 := Lib.cell_of_heap hSw.1 5; have me := kept hSw.2.2 HE.out; have m0 := kept hSw.2.2 M0.out; have m1 := kept hSw.2.2 M1.out; have m2 := kept hSw.2.2 M2.out); go_simp; try with_reducible rfl; done)) | (refine wpAnyH_take (i := 0) (v := undef) nth0 (by kernel_rfl) (by kernel_rfl) (by kernel_rfl) (fun _ _ _ h => h) (Or.inr ⟨by rfl, rfl⟩) hHeld ?_)
  (try simp only [Act.put]); (try simp only [List.setIfInBounds_toArray]); (try simp only [List.set_cons_succ]); (try simp only [List.set_cons_zero])
  first | (refine wpAnyH_take (i := 1) (v := ?_) nth1 (by kernel_rfl) (by kernel_rfl) (by kernel_rfl) (fun _ _ _ h => h) (Or.inl ⟨by rfl, ?_⟩) hHeld ?_; rotate_left; focus (intro wS hSw; (have l4 := Lib.cell_of_heap hSw.1 4; have l5 := Lib.cell_of_heap hSw.1 5; have me := kept hSw.2.2 HE.out; have m0 := kept hSw.2.2 M0.out; have m1 := kept hSw.2.2 M1.out; have m2 := kept hSw.2.2 M2.out); go_simp; try with_reducible rfl; done)) | (refine wpAnyH_take (i := 1) (v := undef) nth1 (by kernel_rfl) (by kernel_rfl) (by kernel_rfl) (fun _ _ _ h => h) (Or.inr ⟨by rfl, rfl⟩) hHeld ?_)
  (try simp only [Act.put]); (try simp only [List.setIfInBounds_toArray]); (try simp only [List.set_cons_succ]); (try simp only [List.set_cons_zero])
  first | (refine wpAnyH_take (i := 2) (v := ?_) nth2 (by kernel_rfl) (by kernel_rfl) (by kernel_rfl) (fun _ _ _ h => h) (Or.inl ⟨by rfl, ?_⟩) hHeld ?_; rotate_left; focus (intro wS hSw; (have l4 := Lib.cell_of_heap hSw.1 4; have l5 := Lib.cell_of_heap hSw.1 5; have me := kept hSw.2.2 HE.out; have m0 := kept hSw.2.2 M0.out; have m1 := kept hSw.2.2 M1.out; have m2 := kept hSw.2.2 M2.out); go_simp; try with_reducible rfl; done)) | (refine wpAnyH_take (i := 2) (v := undef) nth2 (by kernel_rfl) (by kernel_rfl) (by kernel_rfl) (fun _ _ _ h => h) (Or.inr ⟨by rfl, rfl⟩) hHeld ?_)
  (try simp only [Act.put]); (try simp only [List.setIfInBounds_toArray]); (try simp only [List.set_cons_succ]); (try simp only [List.set_cons_zero])
  first | (refine wpAnyH_take (i := 3) (v := ?_) nth3 (by kernel_rfl) (by kernel_rfl) (by kernel_rfl) (fun _ _ _ h => h) (Or.inl ⟨by rfl, ?_⟩) hHeld ?_; rotate_left; focus (intro wS hSw; (have l4 := Lib.cell_of_heap hSw.1 4; have l5 := Lib.cell_of_heap hSw.1 5; have me := kept hSw.2.2 HE.out; have m0 := kept hSw.2.2 M0.out; have m1 := kept hSw.2.2 M1.out; have m2 := kept hSw.2.2 M2.out); go_simp; try with_reducible rfl; done)) | (refine wpAnyH_take (i := 3) (v := undef) nth3 (by kernel_rfl) (by kernel_rfl) (by kernel_rfl) (fun _ _ _ h => h) (Or.inr ⟨by rfl, rfl⟩) hHeld ?_)
  (try simp only [Act.put]); (try simp only [List.setIfInBounds_toArray]); (try simp only [List.set_cons_succ]); (try simp only [List.set_cons_zero])
  first | (refine wpAnyH_take (i := 4) (v := ?_) nth4 (by kernel_rfl) (by kernel_rfl) (by kernel_rfl) (fun _ _ _ h => h) (Or.inl ⟨by rfl, ?_⟩) hHeld ?_; rotate_left; focus (intro wS hSw; (have l4 := Lib.cell_of_heap hSw.1 4; have l5 := Lib.cell_of_heap hSw.1 5; have me := kept hSw.2.2 HE.out; have m0 := kept hSw.2.2 M0.out; have m1 := kept hSw.2.2 M1.out; have m2 := kept hSw.2.2 M2.out); go_simp; try with_reducible rfl; done)) | (refine wpAnyH_take (i := 4) (v := undef) nth4 (by kernel_rfl) (by kernel_rfl) (by kernel_rfl) (fun _ _ _ h => h) (Or.inr ⟨by rfl, rfl⟩) hHeld ?_)
  (try simp only [Act.put]); (try simp only [List.setIfInBounds_toArray]); (try simp only [List.set_cons_succ]); (try simp only [List.set_cons_zero])
  first | (refine wpAnyH_take (i := 5) (v := ?_) nth5 (by kernel_rfl) (by kernel_rfl) (by kernel_rfl) (fun _ _ _ h => h) (Or.inl ⟨by rfl, ?_⟩) hHeld ?_; rotate_left; focus (intro wS hSw; (have l4 := Lib.cell_of_heap hSw.1 4; have l5 := Lib.cell_of_heap hSw.1 5; have me := kept hSw.2.2 HE.out; have m0 := kept hSw.2.2 M0.out; have m1 := kept hSw.2.2 M1.out; have m2 := kept hSw.2.2 M2.out); go_simp; try with_reducible rfl; done)) | (refine wpAnyH_take (i := 5) (v := undef) nth5 (by kernel_rfl) (by kernel_rfl) (by kernel_rfl) (fun _ _ _ h => h) (Or.inr ⟨by rfl, rfl⟩) hHeld ?_)
  (try simp only [Act.put]); (try simp only [List.setIfInBounds_toArray]); (try simp only [List.set_cons_succ]); (try simp only [List.set_cons_zero])
  first | (refine wpAnyH_take (i := 6) (v := ?_) nth6 (by kernel_rfl) (by kernel_rfl) (by kernel_rfl) (fun _ _ _ h => h) (Or.inl ⟨by rfl, ?_⟩) hHeld ?_; rotate_left; focus (intro wS hSw; (have l4 := Lib.cell_of_heap hSw.1 4; have l5 := Lib.cell_of_heap hSw.1 5; have me := kept hSw.2.2 HE.out; have m0 := kept hSw.2.2 M0.out; have m1 := kept hSw.2.2 M1.out; have m2 := kept hSw.2.2 M2.out); go_simp; try with_reducible rfl; done)) | (refine wpAnyH_take (i := 6) (v := undef) nth6 (by kernel_rfl) (by kernel_rfl) (by kernel_rfl) (fun _ _ _ h => h) (Or.inr ⟨by rfl, rfl⟩) hHeld ?_)
  (try simp only [Act.put]); (try simp only [List.setIfInBounds_toArray]); (try simp only [List.set_cons_succ]); (try simp only [List.set_cons_zero])
  first | (refine wpAnyH_take (i := 7) (v := ?_) nth7 (by kernel_rfl) (by kernel_rfl) (by kernel_rfl) (fun _ _ _ h => h) (Or.inl ⟨by rfl, ?_⟩) hHeld ?_; rotate_left; focus (intro wS hSw; (have l4 := Lib.cell_of_heap hSw.1 4; have l5 := Lib.cell_of_heap hSw.1 5; have me := kept hSw.2.2 HE.out; have m0 := kept hSw.2.2 M0.out; have m1 := kept hSw.2.2 M1.out; have m2 := kept hSw.2.2 M2.out); go_simp; try with_reducible rfl; done)) | (refine wpAnyH_take (i := 7) (v := undef) nth7 (by kernel_rfl) (by kernel_rfl) (by kernel_rfl) (fun _ _ _ h => h) (Or.inr ⟨by rfl, rfl⟩) hHeld ?_)
  (try simp only [Act.put]); (try simp only [List.setIfInBounds_toArray]); (try simp only [List.set_cons_succ]); (try simp only [List.set_cons_zero])
  first | (refine wpAnyH_take (i := 8) (v := ?_) nth8 (by kernel_rfl) (by kernel_rfl) (by kernel_rfl) (fun _ _ _ h => h) (Or.inl ⟨by rfl, ?_⟩) hHeld ?_; rotate_left; focus (intro wS hSw; (have l4 := Lib.cell_of_heap hSw.1 4; have l5 := Lib.cell_of_heap hSw.1 5; have me := kept hSw.2.2 HE.out; have m0 := kept hSw.2.2 M0.out; have m1 := kept hSw.2.2 M1.out; have m2 := kept hSw.2.2 M2.out); go_simp; try with_reducible rfl; done)) | (refine wpAnyH_take (i := 8) (v := undef) nth8 (by kernel_rfl) (by kernel_rfl) (by kernel_rfl) (fun _ _ _ h => h) (Or.inr ⟨by rfl, rfl⟩) hHeld ?_)
  (try simp only [Act.put]); (try simp only [List.setIfInBounds_toArray]); (try simp only [List.set_cons_succ]); (try simp only [List.set_cons_zero])
  refine wpAnyH_ready (rs := [9]) (by kernel_rfl) (by simp) ?_
  refine AllReadyH.cons nth9 (fun K hK => ?_) AllReadyH.nil
  obtain ⟨u3, hu3⟩ := hHeld.2.1
  have HS := hide (hu3.set3 v)
  have HBS := hide (below_setV hHeld.2.2 (show w.heap.size ≤ w.heap.size + 1 by omega) v)
  have HF := hide (hp_far hHeld.1 (show w.heap.size + 1 ≠ w.heap.size by omega) v)
  obtain ⟨⟨c0, c1, c2⟩, ⟨y0, y1, y2⟩⟩ := hu3.all
  go_simp
  refine hK.out _ _ (⟨HF.out, ⟨v, HS.out⟩, HBS.out⟩) (fun hHeld => ?_)
  clear hK K
  (try simp only [Act.put]); (try simp only [List.setIfInBounds_toArray]); (try simp only [List.set_cons_succ]); (try simp only [List.set_cons_zero])
  refine wpAnyH_done (by kernel_rfl) ?_ _
  clear hHeld
  go_wp2_with fail
  exact end_v Try.results14 rfl rfl HS.out ⟨rfl, HBS.out⟩
end Go.Proofs.Ytlkeghfdpbfhbaa

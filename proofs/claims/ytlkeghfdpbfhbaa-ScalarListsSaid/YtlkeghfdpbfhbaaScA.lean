/- Boxes of values; the contracts of scalar's number, compare, unary, text, arithmetic. -/
import Derived.Test.YtlkeghfdpbfhbaaScM
import Derived.Test.YtlkeghfdpbfhbaaNth
import Derived.BigRegion
import Derived.Deep.Cut
import Derived.Lib.Builder
namespace Go.Proofs.Ytlkeghfdpbfhbaa
set_option linter.unusedVariables false
open Go.ChangeShapes Go.WideShapes Go.ChangeAt Go.RowKit

/-- A value in a box of its own. -/
def VB (w : World) (g : Nat) (v : ValV) : Prop := w.heap[g]? = some (.cells #[.int .i64 v.kind, .int .i64 v.num, .string v.str] 26 (0, 0))
abbrev vO (k n : Int) (s : ByteArray) : Obj := .cells #[.int .i64 k, .int .i64 n, .string s] 26
abbrev zO : Obj := .cells #[.int .i64 0, .int .i64 0, .string { data := #[] }] 26
def setV (w : World) (b : Nat) (v : ValV) : World := ((w.setCell ⟨b, 0, none⟩ (.int .i64 v.kind)).setCell ⟨b, 1, none⟩ (.int .i64 v.num)).setCell ⟨b, 2, none⟩ (.string v.str)
section
variable {w w' : World} {B g : Nat} {v : ValV}
theorem VB.kept (h : VB w g v) (hb : Below w.heap.size w w') : VB w' g v := (hb.block g (Array.getElem?_eq_some_iff.1 h).1).trans h
theorem VB.lt (h : VB w g v) : g < w.heap.size := (Array.getElem?_eq_some_iff.1 h).1
theorem VB.kept2 (h : VB w g v) (hb : Below B w w') (hg : g < B) : VB w' g v := (hb.block g hg).trans h
theorem VB.all (h : VB w g v) : (w.cell? ⟨g, 0, none⟩ = some (.int .i64 v.kind) ∧ w.cell? ⟨g, 1, none⟩ = some (.int .i64 v.num) ∧ w.cell? ⟨g, 2, none⟩ = some (.string v.str)) ∧ (w.frozen? ⟨g, 0, none⟩ = false ∧ w.frozen? ⟨g, 1, none⟩ = false ∧ w.frozen? ⟨g, 2, none⟩ = false) :=
  ⟨⟨Lib.cell_of_heap h 0, Lib.cell_of_heap h 1, Lib.cell_of_heap h 2⟩, ⟨Lib.frozen_of_heap h 0, Lib.frozen_of_heap h 1, Lib.frozen_of_heap h 2⟩⟩
theorem VB.set3 (h : VB w g v) (u : ValV) : VB (setV w g u) g u := by
  unfold VB setV at *
  simp [World.setCell, Array.getElem?_modify, h]
theorem VB.far (h : VB w g v) {b : Nat} (hne : b ≠ g) (u : ValV) : VB (setV w b u) g v := by
  unfold VB setV at *
  simp [World.setCell, Array.getElem?_modify, h, hne]
end
theorem below_setV {B b : Nat} {w w1 : World} (h : Below B w w1) (hb : B ≤ b) (v : ValV) : Below B w (setV w1 b v) :=
  ((h.setCell (p := ⟨b, 0, none⟩) hb _).setCell (p := ⟨b, 1, none⟩) hb _).setCell (p := ⟨b, 2, none⟩) hb _
theorem end_v {f : Func} {p : Tmp} (hf : f.results = #[.cell p 26]) {a : Act} {w : World} {b : Nat} {v : ValV} {Q : Ending → World → Prop} (hp : a.tmps.getD p undef = .pointer (some ⟨b, 0, none⟩)) (hd : a.defers = []) (hx : VB w b v) (hq : Q (.returned (valAgg v)) w) : bodyPost Try.prog f Q .ret a w := by
  refine bodyPost_ret (v := valAgg v) ?_ hd hq
  have hl := run_loadVar_row (P := Try.prog) w b 26 26 _ (0, 0) _ hx Try.underlying26 rfl (by kernel_rfl)
  have hp' : a.tmps[p]?.getD undef = .pointer (some ⟨b, 0, none⟩) := by simpa using hp
  simp [results, hf, hp', asAddr, hl, valAgg]
/-- A value given back. -/
def GivesV (w : World) (v : ValV) (e : Ending) (w' : World) : Prop := e = .returned (valAgg v) ∧ Below w.heap.size w w'
theorem vb_new (w : World) (k n : Int) (s : ByteArray) : VB (w.alloc (vO k n s)) w.heap.size ⟨k, n, s⟩ := heap_alloc_new w _
theorem vb_one (w : World) : VB (w.alloc zO) w.heap.size nullV := heap_alloc_new w _
theorem vb_two (w : World) (k n : Int) (s : ByteArray) : VB ((w.alloc (vO k n s)).alloc zO) w.heap.size ⟨k, n, s⟩ ∧ VB ((w.alloc (vO k n s)).alloc zO) (w.heap.size + 1) nullV ∧ Below w.heap.size w ((w.alloc (vO k n s)).alloc zO) := by
  have e : (w.alloc (vO k n s)).heap.size = w.heap.size + 1 := World.size_alloc _ _
  refine ⟨(vb_new w k n s).kept (Bel.one _ _), ?_, (Bel.one w _).alloc (Bel.one w _).size _⟩
  rw [← e]
  exact vb_one _
theorem vb_three (w : World) (k n : Int) (s : ByteArray) (k2 n2 : Int) (s2 : ByteArray) : VB (((w.alloc (vO k n s)).alloc (vO k2 n2 s2)).alloc zO) w.heap.size ⟨k, n, s⟩ ∧ VB (((w.alloc (vO k n s)).alloc (vO k2 n2 s2)).alloc zO) (w.heap.size + 1) ⟨k2, n2, s2⟩ ∧ VB (((w.alloc (vO k n s)).alloc (vO k2 n2 s2)).alloc zO) (w.heap.size + 2) nullV ∧ Below w.heap.size w (((w.alloc (vO k n s)).alloc (vO k2 n2 s2)).alloc zO) := by
  have e1 : (w.alloc (vO k n s)).heap.size = w.heap.size + 1 := World.size_alloc _ _
  have e : ((w.alloc (vO k n s)).alloc (vO k2 n2 s2)).heap.size = w.heap.size + 2 := by rw [World.size_alloc, World.size_alloc]
  have h2 : VB ((w.alloc (vO k n s)).alloc (vO k2 n2 s2)) (w.heap.size + 1) ⟨k2, n2, s2⟩ := by rw [← e1]; exact vb_new _ _ _ _
  have hB : Below w.heap.size w ((w.alloc (vO k n s)).alloc (vO k2 n2 s2)) := (Bel.one w _).alloc (Bel.one w _).size _
  refine ⟨((vb_new w k n s).kept (Bel.one _ _)).kept (Bel.one _ _), h2.kept (Bel.one _ _), ?_, hB.alloc hB.size _⟩
  rw [← e]
  exact vb_one _
theorem boolv_c (b : Bool) (w : World) : Calls Try.prog 22 #[.bool b] w (GivesV w (boolV b)) := bool_c b w
theorem numv_c (n : Int) (w : World) : Calls Try.prog 23 #[.int .i64 n] w (GivesV w (numV n)) := num_c n w
theorem strv_c (s : ByteArray) (w : World) : Calls Try.prog 24 #[.string s] w (GivesV w (strV s)) := str_c s w
theorem triv_c (a : Int) (w : World) : Calls Try.prog 43 #[.int .i64 a] w (GivesV w (trV a)) := value18 a w
theorem fromv_c (v : ValV) (w : World) : Calls Try.prog 20 #[valAgg v] w fun e w' => e = .returned (.int .i64 (frV v)) ∧ Below w.heap.size w w' := from20 v.kind v.num v.str w
set_option maxHeartbeats 1000000 in
theorem number_c (p : Int × Bool) (w : World) : Calls Try.prog 45 #[.int .i64 p.1, .bool p.2] w (GivesV w (toldV p)) := by
  obtain ⟨n, b⟩ := p
  have HX := hide (vb_one w)
  have HB := hide (Bel.one w zO)
  cases b with
  | false =>
    obtain ⟨⟨c0, c1, c2⟩, ⟨y0, y1, y2⟩⟩ := HX.out.all
    have HS := hide (HX.out.set3 nullV)
    have HBS := hide (below_setV HB.out (Nat.le_refl _) nullV)
    clear HX HB
    go_enter Try.func45, Try.ntmps45
    go_upto_region 1 with (fail)
    generalize w.alloc (.cells #[.int .i64 0, .int .i64 0, .string { data := #[] }] 26) = w1 at *
    go_wp2_with fail
    exact end_v Try.results45 rfl rfl HS.out ⟨rfl, HBS.out⟩
  | true =>
    have QN := hide (fun W => numv_c n W)
    go_enter Try.func45, Try.ntmps45
    go_upto_region 1 with (fail)
    generalize w.alloc (.cells #[.int .i64 0, .int .i64 0, .string { data := #[] }] 26) = w1 at *
    go_wp2_with fail
    refine (QN.out _).mono ?_
    rintro e w2 ⟨rfl, hb⟩
    replace HX := hide (HX.out.kept hb)
    replace HB := hide (Bel.then HB.out hb)
    obtain ⟨⟨c0, c1, c2⟩, ⟨y0, y1, y2⟩⟩ := HX.out.all
    have HS := hide (HX.out.set3 (numV n))
    have HBS := hide (below_setV HB.out (Nat.le_refl _) (numV n))
    clear HX HB hb
    unfold valAgg
    go_wp2_with fail
    exact end_v Try.results45 rfl rfl HS.out ⟨rfl, HBS.out⟩
set_option maxRecDepth 100000 in
set_option maxHeartbeats 4000000 in
theorem cmpop_c (op : Int) (a b : ValV) (w : World) : Calls Try.prog 48 #[.int .i64 op, valAgg a, valAgg b] w (GivesV w (cmpOpV op a b)) := by
  obtain ⟨h1, h2, h3, h4⟩ := vb_three w a.kind a.num a.str b.kind b.num b.str
  have H1 := hide h1
  have H2 := hide h2
  have H3 := hide h3
  have HB := hide h4
  have QC := hide (fun W => compare_c a b W)
  have QB := hide (fun q W => boolv_c q W)
  clear h1 h2 h3 h4
  unfold cmpOpV
  generalize compV a b = p at *
  obtain ⟨c, q⟩ := p
  unfold valAgg at QC ⊢
  simp only at QC ⊢
  obtain ⟨k, n, s⟩ := a
  obtain ⟨k2, n2, s2⟩ := b
  simp only at QC H1 H2 H3 HB ⊢
  cases q with
  | false =>
    simp only [Bool.false_eq_true, if_false]
    go_enter Try.func48, Try.ntmps48
    go_upto_region 1 with (fail)
    generalize ((w.alloc (.cells #[.int .i64 k, .int .i64 n, .string s] 26)).alloc (.cells #[.int .i64 k2, .int .i64 n2, .string s2] 26)).alloc (.cells #[.int .i64 0, .int .i64 0, .string { data := #[] }] 26) = w1 at *
    obtain ⟨⟨c0, c1, c2⟩, _⟩ := H1.out.all
    obtain ⟨⟨d0, d1, d2⟩, _⟩ := H2.out.all
    go_wp2_with fail
    refine (QC.out _).mono ?_
    rintro e w2 ⟨rfl, hb⟩
    replace H3 := hide (H3.out.kept hb)
    replace HB := hide (Bel.then HB.out hb)
    clear c0 c1 c2 d0 d1 d2 H1 H2 hb
    obtain ⟨⟨c0, c1, c2⟩, ⟨y0, y1, y2⟩⟩ := H3.out.all
    have HS := hide (H3.out.set3 nullV)
    have HBS := hide (below_setV HB.out (show w.heap.size ≤ w.heap.size + 2 by omega) nullV)
    clear H3 HB
    go_wp2_with fail
    exact end_v Try.results48 rfl rfl HS.out ⟨rfl, HBS.out⟩
  | true =>
    simp only [if_true]
    have hop : op = 11 ∨ op = 12 ∨ op = 13 ∨ op = 14 ∨ op = 15 ∨ ((op == 11) = false ∧ (op == 12) = false ∧ (op == 13) = false ∧ (op == 14) = false ∧ (op == 15) = false) := by
      simp only [beq_eq_false_iff_ne]
      omega
    have hval : ∃ q, opB op c = q ∧ ((op = 11 ∧ q = (c == 0)) ∨ (op = 12 ∧ q = (c != 0)) ∨ (op = 13 ∧ q = decide (c < 0)) ∨ (op = 14 ∧ q = decide (c ≤ 0)) ∨ (op = 15 ∧ q = decide (0 < c)) ∨ ((op == 11) = false ∧ (op == 12) = false ∧ (op == 13) = false ∧ (op == 14) = false ∧ (op == 15) = false ∧ q = decide (0 ≤ c))) := by
      refine ⟨_, rfl, ?_⟩
      rcases hop with rfl | rfl | rfl | rfl | rfl | ⟨e1, e2, e3, e4, e5⟩
      · exact .inl ⟨rfl, rfl⟩
      · exact .inr (.inl ⟨rfl, rfl⟩)
      · exact .inr (.inr (.inl ⟨rfl, rfl⟩))
      · exact .inr (.inr (.inr (.inl ⟨rfl, rfl⟩)))
      · exact .inr (.inr (.inr (.inr (.inl ⟨rfl, rfl⟩))))
      · refine .inr (.inr (.inr (.inr (.inr ⟨e1, e2, e3, e4, e5, ?_⟩))))
        simp only [beq_eq_false_iff_ne] at e1 e2 e3 e4 e5
        unfold opB
        rw [if_neg e1, if_neg e2, if_neg e3, if_neg e4, if_neg e5]
    obtain ⟨q, hq, hval⟩ := hval
    rw [hq]
    clear hop hq
    rcases hval with ⟨rfl, rfl⟩ | ⟨rfl, rfl⟩ | ⟨rfl, rfl⟩ | ⟨rfl, rfl⟩ | ⟨rfl, rfl⟩ | ⟨e1, e2, e3, e4, e5, rfl⟩
    all_goals
      go_enter Try.func48, Try.ntmps48
      go_upto_region 1 with (fail)
      generalize ((w.alloc (.cells #[.int .i64 k, .int .i64 n, .string s] 26)).alloc (.cells #[.int .i64 k2, .int .i64 n2, .string s2] 26)).alloc (.cells #[.int .i64 0, .int .i64 0, .string { data := #[] }] 26) = w1 at *
      obtain ⟨⟨c0, c1, c2⟩, _⟩ := H1.out.all
      obtain ⟨⟨d0, d1, d2⟩, _⟩ := H2.out.all
      go_wp2_with fail
      refine (QC.out _).mono ?_
      rintro e w2 ⟨rfl, hb⟩
      replace H3 := hide (H3.out.kept hb)
      replace HB := hide (Bel.then HB.out hb)
      clear c0 c1 c2 d0 d1 d2 H1 H2 hb
      go_wp2_with fail
      refine (QB.out _ _).mono ?_
      rintro e w3 ⟨rfl, hb⟩
      replace H3 := hide (H3.out.kept hb)
      replace HB := hide (Bel.then HB.out hb)
      obtain ⟨⟨c0, c1, c2⟩, ⟨y0, y1, y2⟩⟩ := H3.out.all
      generalize boolV _ = r at *
      have HS := hide (H3.out.set3 r)
      have HBS := hide (below_setV HB.out (show w.heap.size ≤ w.heap.size + 2 by omega) r)
      clear H3 HB hb
      unfold valAgg
      go_wp2_with fail
      exact end_v Try.results48 rfl rfl HS.out ⟨rfl, HBS.out⟩
end Go.Proofs.Ytlkeghfdpbfhbaa

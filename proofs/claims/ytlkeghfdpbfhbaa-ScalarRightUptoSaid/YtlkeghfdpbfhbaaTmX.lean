/- What the texts behind this one use: TmM, TmA, TmB, TmC, TmD, TmE. -/
import Derived.Test.YtlkeghfdpbfhbaaScR
import Derived.Test.YtlkeghfdpbfhbaaOpenV
import Derived.Test.YtlkeghfdpbfhbaaField
import Derived.Test.YtlkeghfdpbfhbaaBulk
import Derived.Test.YtlkeghfdpbfhbaaScH
import Derived.Test.YtlkeghfdpbfhbaaScV
import Derived.Test.YtlkeghfdpbfhbaaScW
namespace Go.Proofs.Ytlkeghfdpbfhbaa
set_option linter.unusedVariables false
open Go.ChangeShapes Go.WideShapes Go.ChangeAt Go.RowKit Go.Joins Go.Deep

/-- A term as it lies in memory: its cells; of its kids the slice. -/
structure Nd where
  op : Int
  v : ValV
  dp : Int
  ai : Int
  nm : ByteArray
  A : Option Addr
  n : Nat
  c : Nat
  sA : Option Addr
  sn : Nat
  sc : Nat
  ty : Int
abbrev ndObj (x : Nd) : Array Value := #[.int .i64 x.op, .int .i64 x.v.kind, .int .i64 x.v.num, .string x.v.str, .int .i64 x.dp, .int .i64 x.ai, .string x.nm, .slice x.A x.n x.c, (.slice x.sA x.sn x.sc), .int .i64 x.ty]
def ndCells (x : Nd) : List Value := [.int .i64 x.op, .int .i64 x.v.kind, .int .i64 x.v.num, .string x.v.str, .int .i64 x.dp, .int .i64 x.ai, .string x.nm, .slice x.A x.n x.c, (.slice x.sA x.sn x.sc), .int .i64 x.ty]
def ndAgg (x : Nd) : Value := .agg (ndObj x)
theorem ndCells_len (x : Nd) : (ndCells x).length = 10 := rfl
/-- A term as a tree. -/
inductive Trm where
  | mk (op : Int) (v : ValV) (dp ai : Int) (nm : ByteArray) (kids : List Trm) : Trm
def Trm.op : Trm → Int | .mk op _ _ _ _ _ => op
def Trm.v : Trm → ValV | .mk _ v _ _ _ _ => v
def Trm.dp : Trm → Int | .mk _ _ dp _ _ _ => dp
def Trm.ai : Trm → Int | .mk _ _ _ ai _ _ => ai
def Trm.nm : Trm → ByteArray | .mk _ _ _ _ nm _ => nm
def Trm.kids : Trm → List Trm | .mk _ _ _ _ _ kids => kids
/-- The term in memory is that tree, of at most so many levels. -/
def TAt (w : World) (B : Nat) : Nat → Nd → Trm → Prop
  | 0, _, _ => False
  | d + 1, x, t => (x.op = t.op ∧ x.v = t.v ∧ x.dp = t.dp ∧ x.ai = t.ai ∧ x.nm = t.nm) ∧ ∃ l : List Nd, SlAt ndCells 10 w B x.A x.n x.c l ∧ l.length = t.kids.length ∧ ∀ (i : Nat) y u, l[i]? = some y → t.kids[i]? = some u → TAt w B d y u
theorem TAt.below {w w' : World} {B : Nat} (hb : Below B w w') : ∀ {d : Nat} {x : Nd} {t : Trm}, TAt w B d x t → TAt w' B d x t
  | 0, _, _, h => h.elim
  | d + 1, _, _, ⟨h1, l, h2, h3, h4⟩ => ⟨h1, l, h2.below hb, h3, fun i y u g1 g2 => (h4 i y u g1 g2).below hb⟩
theorem TAt.more {w : World} {B B' : Nat} (hb : B ≤ B') : ∀ {d : Nat} {x : Nd} {t : Trm}, TAt w B d x t → TAt w B' d x t
  | 0, _, _, h => h.elim
  | d + 1, _, _, ⟨h1, l, h2, h3, h4⟩ => ⟨h1, l, h2.more hb, h3, fun i y u g1 g2 => (h4 i y u g1 g2).more hb⟩
theorem TAt.kept {w w' : World} {d : Nat} {x : Nd} {t : Trm} (h : TAt w w.heap.size d x t) (hb : Below w.heap.size w w') : TAt w' w'.heap.size d x t := (h.below hb).more hb.size
/-- Rows in memory, with their heads. -/
abbrev ER := Option Addr × Nat × Nat × List ValV
def erC (p : ER) : List Value := [.slice p.1 p.2.1 p.2.2.1]
def EnvAt (w : World) (B : Nat) (A : Option Addr) (n c : Nat) (ps : List ER) : Prop := SlAt erC 1 w B A n c ps ∧ ∀ p ∈ ps, RowV w B p.1 p.2.1 p.2.2.1 p.2.2.2
theorem EnvAt.below {w w' : World} {B n c : Nat} {A : Option Addr} {ps : List ER} (h : EnvAt w B A n c ps) (hb : Below B w w') : EnvAt w' B A n c ps := ⟨h.1.below hb, fun p hp => (h.2 p hp).below hb⟩
theorem EnvAt.more {w : World} {B B' n c : Nat} {A : Option Addr} {ps : List ER} (h : EnvAt w B A n c ps) (hb : B ≤ B') : EnvAt w B' A n c ps := ⟨h.1.more hb, fun p hp => (h.2 p hp).more hb⟩
theorem EnvAt.kept {w w' : World} {n c : Nat} {A : Option Addr} {ps : List ER} (h : EnvAt w w.heap.size A n c ps) (hb : Below w.heap.size w w') : EnvAt w' w'.heap.size A n c ps := (h.below hb).more hb.size
/-- What a term comes to. -/
def colV (ps : List ER) (dp ai : Int) : ValV := if 0 ≤ dp ∧ 0 ≤ ai then (((ps[dp.toNat]?).bind fun p => p.2.2.2[ai.toNat]?).getD nullV) else nullV
def evalT (ps : List ER) : Nat → Trm → ValV
  | 0, _ => nullV
  | k + 1, t => if t.op = 1 then t.v else if t.op = 2 then colV ps t.dp t.ai else if t.op = 26 ∨ t.op = 27 ∨ t.op = 28 then nullV else applyV t.op t.nm (t.kids.map (evalT ps k))
def shortT : Nat → Trm → Bool
  | 0, _ => true
  | k + 1, t => t.kids.all (shortT k) && decide (t.v.str.size ≤ 2000)
def smallT (N : Nat) : Nat → Trm → Bool
  | 0, _ => false
  | k + 1, t => decide (t.kids.length ≤ N) && t.kids.all (smallT N k)
theorem toldV_size (p : Int × Bool) : (toldV p).str.size = 0 := by unfold toldV; split <;> rfl
theorem boolV_size (b : Bool) : (boolV b).str.size = 0 := rfl
theorem trV_size (a : Int) : (trV a).str.size = 0 := rfl
theorem nullV_size : nullV.str.size = 0 := rfl
theorem cmpOpV_size (op : Int) (a b : ValV) : (cmpOpV op a b).str.size = 0 := by unfold cmpOpV; split <;> rfl
theorem binV_size (op : Int) (a b : ValV) : (binV op a b).str.size ≤ 100 := by
  unfold binV
  split
  · rw [trV_size]; omega
  split
  · rw [trV_size]; omega
  split
  · rw [cmpOpV_size]; omega
  split
  · split
    · unfold txV
      split
      · rw [boolV_size]; omega
      split
      · rw [nullV_size]; omega
      · have h := ByteArray.size_append (a := a.str) (b := b.str)
        show (a.str ++ b.str).size ≤ 100
        omega
    · rw [nullV_size]; omega
  split
  · rw [toldV_size]; omega
  · rw [nullV_size]; omega
theorem unV_size (op : Int) (a : ValV) : (unV op a).str.size = 0 := by
  unfold unV
  split
  · rfl
  split
  · rfl
  split
  · exact toldV_size _
  · rfl
theorem strL_size (l : List UInt8) : (strL l).size = l.length := by unfold strL; show l.toArray.size = _; simp
theorem choose_size {M : Nat} : ∀ (l : List ValV), (∀ v ∈ l, v.str.size ≤ M) → (chooseV l).str.size ≤ M
  | [], _ => Nat.zero_le _
  | [x], h => h x (by simp)
  | a :: b :: l, h => by
    rw [chooseV]
    split
    · exact h b (by simp)
    · exact choose_size l fun v hv => h v (by simp [hv])
theorem coal_size {M : Nat} : ∀ (l : List ValV), (∀ v ∈ l, v.str.size ≤ M) → (coalV l).str.size ≤ M
  | [], _ => Nat.zero_le _
  | x :: l, h => by
    rw [coalV]
    split
    · exact coal_size l fun v hv => h v (by simp [hv])
    · exact h x (by simp)
theorem one_size {M : Nat} (nm : ByteArray) (a : ValV) (h : a.str.size ≤ M) : (oneV nm a).str.size ≤ M := by
  have hs : ∀ f : UInt8 → UInt8, (strV (strL (a.str.data.toList.map f))).str.size ≤ M := fun f => by
    show (strL _).size ≤ M
    rw [strL_size, List.length_map, str_len]
    exact h
  unfold oneV
  split
  · split
    · rw [toldV_size]; omega
    · rw [toldV_size]; omega
  split
  · split
    · exact Nat.zero_le _
    split
    · exact hs _
    split
    · exact hs _
    · exact Nat.zero_le _
  · exact Nat.zero_le _
theorem call_size {M : Nat} (nm : ByteArray) (l : List ValV) (h : ∀ v ∈ l, v.str.size ≤ M) : (callV nm l).str.size ≤ M := by
  unfold callV
  split
  · exact coal_size l h
  split
  · exact one_size nm _ (h _ (by simp))
  · split
    · unfold nullifV
      split
      · exact Nat.zero_le _
      · exact h _ (by simp)
    · exact Nat.zero_le _
  · exact Nat.zero_le _
/-- What an operator makes is no longer than what it is made of. -/
theorem apply_size {M : Nat} (hM : 100 ≤ M) (op : Int) (nm : ByteArray) (l : List ValV) (h : ∀ v ∈ l, v.str.size ≤ M) : (applyV op nm l).str.size ≤ M := by
  unfold applyV
  split
  · split
    · rw [unV_size]; omega
    · exact Nat.zero_le _
  split
  · split
    · exact Nat.le_trans (binV_size op _ _) hM
    · exact Nat.zero_le _
  split
  · split
    · exact Nat.le_trans (binV_size 17 _ _) hM
    · exact Nat.zero_le _
  split
  · split
    · exact Nat.zero_le _
    · exact Nat.zero_le _
  split
  · split
    · exact choose_size _ h
    · exact Nat.zero_le _
  split
  · exact call_size nm l h
  · exact Nat.zero_le _
theorem col_size {M : Nat} (ps : List ER) (dp ai : Int) (h : ∀ p ∈ ps, ∀ v ∈ p.2.2.2, v.str.size ≤ M) : (colV ps dp ai).str.size ≤ M := by
  unfold colV
  split
  · cases h1 : ps[dp.toNat]? with
    | none => exact Nat.zero_le _
    | some p =>
      show ((p.2.2.2[ai.toNat]?).getD nullV).str.size ≤ M
      cases h2 : p.2.2.2[ai.toNat]? with
      | none => exact Nat.zero_le _
      | some v => exact h p (List.mem_of_getElem? h1) v (List.mem_of_getElem? h2)
  · exact Nat.zero_le _
theorem eval_size {M : Nat} (hM : 2000 ≤ M) (ps : List ER) (h : ∀ p ∈ ps, ∀ v ∈ p.2.2.2, v.str.size ≤ M) : ∀ (k : Nat) (t : Trm), shortT k t = true → (evalT ps k t).str.size ≤ M
  | 0, _, _ => Nat.zero_le _
  | k + 1, t, hs => by
    rw [shortT, Bool.and_eq_true] at hs
    rw [evalT]
    split
    · exact Nat.le_trans (of_decide_eq_true hs.2) hM
    split
    · exact col_size ps _ _ h
    split
    · exact Nat.zero_le _
    · refine apply_size (by omega) _ _ _ fun v hv => ?_
      obtain ⟨u, hu, rfl⟩ := List.mem_map.1 hv
      exact eval_size hM ps h k u (List.all_eq_true.1 hs.1 u hu)
section
variable {H : Type} {enc : TypeId × Value → H} {w : World} {base : Nat} {spare : Nat → Bool} {held : Bool}
theorem one_terms : Try.prog.cellsOf 29 = 1 := by kernel_rfl
theorem one_rels : Try.prog.cellsOf 30 = 1 := by kernel_rfl
theorem three_val : Try.prog.cellsOf 26 = 3 := by kernel_rfl
theorem ten_term : Try.prog.cellsOf 32 = 10 := by kernel_rfl
theorem open_trm : ∀ (M n : Nat) (vs : List Value) (y : DataW H × List MemPlace), vs.length = 10 → DataW.trod enc Try.prog w base spare held n 32 vs = some y → Rows.uptoBulk y.1 ≤ M → ∃ x : Nd, vs = ndCells x ∧ ∃ t, TAt w w.heap.size M x t
  | 0, n, vs, y, _, _, hM => by have := bulk_pos y.1; omega
  | M + 1, n, vs, y, hl, h, hM => by
    match vs, hl with
    | [x0, x1, x2, x3, x4, x5, x6, x7, x8, x9], _ =>
      obtain ⟨_, _, g0, _⟩ := field_of Try.underlying32 h 0 rfl rfl one_int
      obtain ⟨_, _, g1, _⟩ := field_of Try.underlying32 h 1 rfl rfl three_val
      obtain ⟨_, _, g2, _⟩ := field_of Try.underlying32 h 2 rfl rfl one_int
      obtain ⟨_, _, g3, _⟩ := field_of Try.underlying32 h 3 rfl rfl one_int
      obtain ⟨_, _, g4, _⟩ := field_of Try.underlying32 h 4 rfl rfl one_str
      obtain ⟨m, z, g5, L, hy, hz⟩ := field_of Try.underlying32 h 5 rfl rfl one_terms
      obtain ⟨_, _, g6, _⟩ := field_of Try.underlying32 h 6 rfl rfl one_rels
      obtain ⟨_, _, g7, _⟩ := field_of Try.underlying32 h 7 rfl rfl one_int
      obtain ⟨a0, f0, _, _⟩ := DataW.trod_int Try.underlying3 g0
      obtain ⟨a1, f1, _⟩ := open_val rfl g1 (Nat.le_refl _)
      obtain ⟨a2, f2, _, _⟩ := DataW.trod_int Try.underlying3 g2
      obtain ⟨a3, f3, _, _⟩ := DataW.trod_int Try.underlying3 g3
      obtain ⟨a4, f4, _, _⟩ := DataW.trod_string Try.underlying9 g4
      obtain ⟨a7, f7, _, _⟩ := DataW.trod_int Try.underlying3 g7
      obtain ⟨sA, sn, sc, f6⟩ : ∃ sA sn sc, (([x0, x1, x2, x3, x4, x5, x6, x7, x8, x9].drop 8).take 1) = [.slice sA sn sc] := by
        rcases open_slice Try.underlying30 g6 with ⟨e, _⟩ | ⟨a, len, cap, _, _, _, _, e, _⟩
        · exact ⟨none, 0, 0, e⟩
        · exact ⟨some a, len, cap, e⟩
      have hzM : Rows.uptoBulk z.1 ≤ M := by
        have h1 := bulk_mem hz
        have h2 := bulk_parts L
        rw [hy] at hM
        omega
      obtain ⟨A, N, C, l, f5, e1, e2, e3, e4, e5, e6, e7⟩ := open_elems (α := Nd) ndCells (Good := fun x => ∃ t, TAt w w.heap.size M x t) Try.underlying29 (k := 10) ten_term (by omega) Rows.uptoBulk bulk_el bulk_le hzM (fun n vs y hl hy hb => open_trm M n vs y hl hy hb) g5
      obtain ⟨us, hul, hu⟩ := list_of (R := fun i t => ∀ x, l[i]? = some x → TAt w w.heap.size M x t) l.length fun i hi => by
        obtain ⟨t, ht⟩ := e7 (l[i]'hi) (List.getElem_mem hi)
        refine ⟨t, fun x hx => ?_⟩
        rw [List.getElem?_eq_getElem hi] at hx
        injection hx with hx
        rw [← hx]
        exact ht
      simp [valCells] at f0 f1 f2 f3 f4 f5 f6 f7
      obtain ⟨f1a, f1b, f1c⟩ := f1
      subst f0 f1a f1b f1c f2 f3 f4 f5 f6 f7
      refine ⟨⟨a0, a1, a2, a3, a4, A, N, C, sA, sn, sc, a7⟩, rfl, .mk a0 a1 a2 a3 a4 us, ⟨rfl, rfl, rfl, rfl, rfl⟩, l, ⟨e4, e1, e2, e3, e6⟩, hul.symm, fun i x u h1 h2 => hu i u h2 x h1⟩
theorem open_trmT {v : Value} {d : DataW H} {p : List MemPlace} (hok : Value.okWide Try.prog w .any base 32 v) (h : DataW.Trod enc Try.prog w 0 (fun _ => true) true 32 v d p) : ∃ (x : Nd) (t : Trm) (D : Nat), v = ndAgg x ∧ TAt w w.heap.size D x t := by
  obtain ⟨cs, rfl, hsz⟩ := okWide_struct Try.underlying32 hok
  rw [ten_term] at hsz
  obtain ⟨fuel, hf⟩ := h
  obtain ⟨x, hx, t, ht⟩ := open_trm _ _ cs.toList _ (by rw [Array.length_toList]; exact hsz) hf (Nat.le_refl _)
  refine ⟨x, t, _, ?_, ht⟩
  obtain ⟨l⟩ := cs
  simp only at hx
  rw [hx]
  rfl
theorem open_rowP {n : Nat} {cs : List Value} {x : DataW H × List MemPlace} (h : DataW.trod enc Try.prog w base spare held n 36 cs = some x) : ∃ A N C l, cs = [.slice A N C] ∧ RowV w w.heap.size A N C l := by
  have hf : ∀ n vs y, vs.length = 3 → DataW.trod enc Try.prog w base spare held n 26 vs = some y → Rows.uptoBulk y.1 ≤ Rows.uptoBulk x.1 → ∃ a : ValV, vs = valCells a ∧ True := fun n vs y hl hy hb => by
    obtain ⟨a, h1, _⟩ := open_val hl hy (Nat.le_refl _)
    exact ⟨a, h1, trivial⟩
  obtain ⟨A, N, C, l, rfl, h1, h2, h3, h4, h5, h6, h7⟩ := open_elems (α := ValV) valCells (Good := fun _ => True) Try.underlying36 (k := 3) (by kernel_rfl) (by omega) Rows.uptoBulk bulk_el bulk_le (Nat.le_refl _) hf h
  exact ⟨A, N, C, l, rfl, ⟨h4, h1, h2, h3, h6⟩⟩
theorem open_envT {v : Value} {d : DataW H} {p : List MemPlace} (hok : Value.okWide Try.prog w .any base 33 v) (h : DataW.Trod enc Try.prog w 0 (fun _ => true) true 33 v d p) : ∃ A n c ps, v = .slice A n c ∧ EnvAt w w.heap.size A n c ps := by
  obtain ⟨n, h0⟩ := h
  obtain ⟨A, N, C, l, e, h1, h2, h3, h4, h5, h6, h7⟩ := open_elems (α := ER) erC (Good := fun p => RowV w w.heap.size p.1 p.2.1 p.2.2.1 p.2.2.2) Try.underlying33 (k := 1) (by kernel_rfl) (by omega) Rows.uptoBulk bulk_el bulk_le (Nat.le_refl _) (fun n vs y hl hy hb => by
    obtain ⟨A, N, C, l, e, h1⟩ := open_rowP hy
    exact ⟨(A, N, C, l), e, h1⟩) h0
  obtain ⟨a0, len0, cap0, rfl⟩ := okWide_slice Try.underlying33 hok
  simp [Value.cells] at e
  obtain ⟨rfl, rfl, rfl⟩ := e
  exact ⟨_, _, _, l, rfl, ⟨h4, h1, h2, h3, h6⟩, h7⟩
end
end Go.Proofs.Ytlkeghfdpbfhbaa
namespace Go.Proofs.Ytlkeghfdpbfhbaa
set_option linter.unusedVariables false
open Go.ChangeShapes Go.WideShapes Go.ChangeAt Go.RowKit

theorem all_take {α : Type} {f : α → Bool} {l : List α} {k : Nat} {u : α} (h : l[k]? = some u) (ha : (l.take k).all f = true) (hu : f u = true) : (l.take (k + 1)).all f = true := by
  rw [take_at h, List.all_append, ha]
  simp [hu]
theorem all_not {α : Type} {f : α → Bool} {l : List α} {k : Nat} {u : α} (h : l[k]? = some u) (hu : f u = false) : l.all f = false := by
  rw [List.all_eq_false]
  exact ⟨u, List.mem_of_getElem? h, by rw [hu]; simp⟩
/-- A kid: where it lies, its ten cells, the tree it is. -/
theorem kid_at {w : World} {B d n c : Nat} {A : Option Addr} {l : List Nd} {us : List Trm} (h : SlAt ndCells 10 w B A n c l) (hl : l.length = us.length) (ht : ∀ (i : Nat) y u, l[i]? = some y → us[i]? = some u → TAt w B d y u) {i : Nat} (hi : i < n) :
    ∃ b off y u, A = some ⟨b, off, none⟩ ∧ b < B ∧ us[i]? = some u ∧ TAt w B d y u ∧ w.cell? ⟨b, off + i * 10, none⟩ = some (.int .i64 y.op) ∧ w.cell? ⟨b, off + i * 10 + 1, none⟩ = some (.int .i64 y.v.kind) ∧ w.cell? ⟨b, off + i * 10 + 2, none⟩ = some (.int .i64 y.v.num) ∧ w.cell? ⟨b, off + i * 10 + 3, none⟩ = some (.string y.v.str) ∧ w.cell? ⟨b, off + i * 10 + 4, none⟩ = some (.int .i64 y.dp) ∧
      w.cell? ⟨b, off + i * 10 + 5, none⟩ = some (.int .i64 y.ai) ∧ w.cell? ⟨b, off + i * 10 + 6, none⟩ = some (.string y.nm) ∧ w.cell? ⟨b, off + i * 10 + 7, none⟩ = some (.slice y.A y.n y.c) ∧ w.cell? ⟨b, off + i * 10 + 8, none⟩ = some (.slice y.sA y.sn y.sc) ∧ w.cell? ⟨b, off + i * 10 + 9, none⟩ = some (.int .i64 y.ty) := by
  obtain ⟨b, off, y, hA, hb, hy, hc⟩ := h.at (by omega) hi
  have hln := h.len
  have hu : us[i]? = some (us[i]'(by omega)) := List.getElem?_eq_getElem (by omega)
  refine ⟨b, off, y, _, hA, hb, hu, ht i y _ hy hu, hc 0 _ rfl, ?_, ?_, ?_, ?_, ?_, ?_, ?_, ?_, ?_⟩
  all_goals
    rw [Nat.add_assoc]
  · exact hc 1 _ rfl
  · exact hc 2 _ rfl
  · exact hc 3 _ rfl
  · exact hc 4 _ rfl
  · exact hc 5 _ rfl
  · exact hc 6 _ rfl
  · exact hc 7 _ rfl
  · exact hc 8 _ rfl
  · exact hc 9 _ rfl
set_option maxRecDepth 100000 in
set_option maxHeartbeats 4000000 in
theorem small_c : ∀ (K : Nat) (m : Int) (d : Nat) (x : Nd) (t : Trm) (w : World), m = (K : Int) → K ≤ 1000 → TAt w w.heap.size d x t → Calls Try.prog 12 #[ndAgg x, .int .i64 m] w fun e w' => e = .returned (.bool (smallT 10 K t)) ∧ Below w.heap.size w w'
  | K, m, 0, x, t, w, _, _, h => h.elim
  | 0, m, d + 1, x, t, w, hm, _, h => by
    obtain rfl : m = 0 := by omega
    have HB := hide (Bel.one w (.cells (ndObj x) 32))
    clear h hm
    unfold ndAgg
    go_enter Try.func12, Try.ntmps12
    go_wp2_with fail
    go_ret
    exact ⟨rfl, HB.out⟩
  | K + 1, m, d + 1, x, t, w, hm, hK, h => by
    obtain ⟨_, l, hs, hl, hk⟩ := h
    have hn := hs.len
    have HB0 := hide (Bel.one w (.cells (ndObj x) 32))
    have H0 := hide (hp_new w (ndObj x) 32)
    have hV : smallT 10 (K + 1) t = (decide (t.kids.length ≤ 10) && t.kids.all (smallT 10 K)) := rfl
    rw [hV, ← hl, hn]
    clear hV
    have HI := hide (fun y u W h => small_c K (m - 1) d y u W (by omega) (by omega) h)
    have hwm : IntKind.i64.wrap (m - 1) = m - 1 := IntWalk.i64_in _ (by omega)
    have hm1 : ¬ m < 1 := by omega
    have HS := hide hs
    have HL := hide hl
    have HK := hide hk
    obtain ⟨us, hus⟩ : ∃ us, t.kids = us := ⟨_, rfl⟩
    rw [hus] at HL HK ⊢
    have HN : Hid (us.length = x.n) := by have := HL.out; show _ = _; omega
    clear hs hl hk hn hm hus
    obtain ⟨op, v, dp, ai, nm, A, n, c, sA, sn, sc, ty⟩ := x
    simp only at HB0 H0 HS HN ⊢
    unfold ndAgg ndObj
    unfold ndObj at HB0 H0
    simp only at HB0 H0 ⊢
    by_cases h10 : n ≤ 10
    · have h10i : ¬ (10 : Int) < (n : Int) := by omega
      have hd10 : decide (n ≤ 10) = true := decide_eq_true h10
      rw [hd10, Bool.true_and]
      clear hd10
      go_enter Try.func12, Try.ntmps12
      go_upto_region 1 with (fail)
      generalize w.alloc (.cells #[.int .i64 op, .int .i64 v.kind, .int .i64 v.num, .string v.str, .int .i64 dp, .int .i64 ai, .string nm, .slice A n c, .slice sA sn sc, .int .i64 ty] 32) = w1 at *
      have l7 := Lib.cell_of_heap H0.out 7
      go_wp2_with fail
      clear l7
      go_loopw [5] (fun i wr => ∃ k : Nat, k ≤ n ∧ i = .int .i64 k ∧ Hid (Below w.heap.size w wr) ∧ Hid (Hp wr w.heap.size #[.int .i64 op, .int .i64 v.kind, .int .i64 v.num, .string v.str, .int .i64 dp, .int .i64 ai, .string nm, .slice A n c, .slice sA sn sc, .int .i64 ty] 32) ∧ Hid ((us.take k).all (smallT 10 K) = true)) (fun i _ => n - (intOf i).toNat)
      case atStart => exact ⟨0, Nat.zero_le _, rfl, HB0, H0, rfl⟩
      case round =>
        clear HB0 H0
        obtain ⟨k, hk, rfl, HB, H0, HT⟩ := hrel
        have l7 := Lib.cell_of_heap H0.out 7
        by_cases hlt : k < n
        · have hlti : (k : Int) < n := by omega
          have hwk : IntKind.i64.wrap ((k : Int) + 1) = (k : Int) + 1 := IntWalk.i64_in _ (by omega)
          obtain ⟨b, off, y, u, rfl, hb, hu, hty, c0, c1, c2, c3, c4, c5, c6, c7, c8, c9⟩ := kid_at (HS.out.kept HB.out) HL.out (fun i y u g1 g2 => (HK.out i y u g1 g2).kept HB.out) hlt
          have Q := hide (fun W h => HI.out y u W h)
          have HY := hide hty
          have HU := hide hu
          clear hty hu hb
          obtain ⟨q, hq⟩ : ∃ q, smallT 10 K u = q := ⟨_, rfl⟩
          rw [hq] at Q
          have HQ := hide hq
          clear hq
          unfold ndAgg ndObj at Q
          obtain ⟨yop, yv, ydp, yai, ynm, yA, yn, yc, ysA, ysn, ysc, yty⟩ := y
          simp only at Q c0 c1 c2 c3 c4 c5 c6 c7 c8 c9
          cases q with
          | true =>
            have HT2 := hide (all_take HU.out HT.out HQ.out)
            go_wp2_with fail
            refine (Q.out _ HY.out).mono ?_
            rintro e w2 ⟨rfl, hb⟩
            replace H0 := hide (H0.out.kept hb)
            replace HB := hide (Bel.then HB.out hb)
            clear hb c0 c1 c2 c3 c4 c5 c6 c7 c8 c9 l7 HQ
            go_wp2_with fail
            go_roundw
            case rel => exact ⟨k + 1, by omega, by go_num, HB, H0, HT2⟩
            case measure => simp [intOf]; omega
          | false =>
            have HF := hide (all_not HU.out HQ.out)
            go_wp2_with fail
            refine (Q.out _ HY.out).mono ?_
            rintro e w2 ⟨rfl, hb⟩
            replace HB := hide (Bel.then HB.out hb)
            clear hb c0 c1 c2 c3 c4 c5 c6 c7 c8 c9 l7 HQ
            go_wp2_with fail
            go_ret
            exact ⟨ret_bool HF.out.symm, HB.out⟩
        · have hlti : ¬ (k : Int) < n := by omega
          have HF : Hid (us.all (smallT 10 K) = true) := by
            have := HT.out
            rw [List.take_of_length_le (by rw [HN.out]; omega)] at this
            exact this
          go_wp2_with fail
          go_ret
          exact ⟨ret_bool HF.out.symm, HB.out⟩
    · have h10i : (10 : Int) < (n : Int) := by omega
      have hd10 : decide (n ≤ 10) = false := decide_eq_false h10
      rw [hd10, Bool.false_and]
      clear hd10
      go_enter Try.func12, Try.ntmps12
      go_upto_region 1 with (fail)
      generalize w.alloc (.cells #[.int .i64 op, .int .i64 v.kind, .int .i64 v.num, .string v.str, .int .i64 dp, .int .i64 ai, .string nm, .slice A n c, .slice sA sn sc, .int .i64 ty] 32) = w1 at *
      have l7 := Lib.cell_of_heap H0.out 7
      go_wp2_with fail
      go_ret
      exact ⟨rfl, HB0.out⟩
set_option maxRecDepth 100000 in
set_option maxHeartbeats 4000000 in
theorem shortT_c : ∀ (K d : Nat) (x : Nd) (t : Trm) (w : World), smallT 10 K t = true → TAt w w.heap.size d x t → Calls Try.prog 13 #[ndAgg x] w fun e w' => e = .returned (.bool (shortT K t)) ∧ Below w.heap.size w w'
  | K, 0, x, t, w, _, h => h.elim
  | 0, d + 1, x, t, w, hm, h => by rw [smallT] at hm; cases hm
  | K + 1, d + 1, x, t, w, hm, h => by
    obtain ⟨⟨_, hxv, _⟩, l, hs, hl, hk⟩ := h
    have hn := hs.len
    rw [smallT, Bool.and_eq_true, decide_eq_true_eq] at hm
    have HB0 := hide (Bel.one w (.cells (ndObj x) 32))
    have H0 := hide (hp_new w (ndObj x) 32)
    have hV : shortT (K + 1) t = (t.kids.all (shortT K) && decide (x.v.str.size ≤ 2000)) := by rw [hxv]; rfl
    rw [hV]
    clear hV
    have HI := hide (fun y u W g h => shortT_c K d y u W g h)
    have HM := hide hm.2
    have HS := hide hs
    have HL := hide hl
    have HK := hide hk
    have h10 : x.n ≤ 10 := by have := hm.1; omega
    obtain ⟨us, hus⟩ : ∃ us, t.kids = us := ⟨_, rfl⟩
    rw [hus] at HL HK HM ⊢
    have HN : Hid (us.length = x.n) := by have := HL.out; show _ = _; omega
    clear hs hl hk hn hm hus hxv
    obtain ⟨op, v, dp, ai, nm, A, n, c, sA, sn, sc, ty⟩ := x
    simp only at HB0 H0 HS HN h10 ⊢
    unfold ndAgg ndObj
    unfold ndObj at HB0 H0
    simp only at HB0 H0 ⊢
    go_enter Try.func13, Try.ntmps13
    go_upto_region 1 with (fail)
    generalize w.alloc (.cells #[.int .i64 op, .int .i64 v.kind, .int .i64 v.num, .string v.str, .int .i64 dp, .int .i64 ai, .string nm, .slice A n c, .slice sA sn sc, .int .i64 ty] 32) = w1 at *
    go_wp2_with fail
    go_loopw [3] (fun i wr => ∃ k : Nat, k ≤ n ∧ i = .int .i64 k ∧ Hid (Below w.heap.size w wr) ∧ Hid (Hp wr w.heap.size #[.int .i64 op, .int .i64 v.kind, .int .i64 v.num, .string v.str, .int .i64 dp, .int .i64 ai, .string nm, .slice A n c, .slice sA sn sc, .int .i64 ty] 32) ∧ Hid ((us.take k).all (shortT K) = true)) (fun i _ => n - (intOf i).toNat)
    case atStart => exact ⟨0, Nat.zero_le _, rfl, HB0, H0, rfl⟩
    case round =>
      clear HB0 H0
      obtain ⟨k, hk, rfl, HB, H0, HT⟩ := hrel
      have l7 := Lib.cell_of_heap H0.out 7
      by_cases hlt : k < n
      · have hlti : (k : Int) < n := by omega
        have hwk : IntKind.i64.wrap ((k : Int) + 1) = (k : Int) + 1 := IntWalk.i64_in _ (by omega)
        obtain ⟨b, off, y, u, rfl, hb, hu, hty, c0, c1, c2, c3, c4, c5, c6, c7, c8, c9⟩ := kid_at (HS.out.kept HB.out) HL.out (fun i y u g1 g2 => (HK.out i y u g1 g2).kept HB.out) hlt
        have Q := hide (fun W h => HI.out y u W (List.all_eq_true.1 HM.out u (List.mem_of_getElem? hu)) h)
        have HY := hide hty
        have HU := hide hu
        clear hty hu hb
        obtain ⟨q, hq⟩ : ∃ q, shortT K u = q := ⟨_, rfl⟩
        rw [hq] at Q
        have HQ := hide hq
        clear hq
        unfold ndAgg ndObj at Q
        obtain ⟨yop, yv, ydp, yai, ynm, yA, yn, yc, ysA, ysn, ysc, yty⟩ := y
        simp only at Q c0 c1 c2 c3 c4 c5 c6 c7 c8 c9
        cases q with
        | true =>
          have HT2 := hide (all_take HU.out HT.out HQ.out)
          go_wp2_with fail
          refine (Q.out _ HY.out).mono ?_
          rintro e w2 ⟨rfl, hb⟩
          replace H0 := hide (H0.out.kept hb)
          replace HB := hide (Bel.then HB.out hb)
          clear hb c0 c1 c2 c3 c4 c5 c6 c7 c8 c9 l7 HQ
          go_wp2_with fail
          go_roundw
          case rel => exact ⟨k + 1, by omega, by go_num, HB, H0, HT2⟩
          case measure => simp [intOf]; omega
        | false =>
          have HF : Hid ((us.all (shortT K) && decide (v.str.size ≤ 2000)) = false) := by show _ = _; rw [all_not HU.out HQ.out, Bool.false_and]
          go_wp2_with fail
          refine (Q.out _ HY.out).mono ?_
          rintro e w2 ⟨rfl, hb⟩
          replace HB := hide (Bel.then HB.out hb)
          clear hb c0 c1 c2 c3 c4 c5 c6 c7 c8 c9 l7 HQ
          go_wp2_with fail
          go_ret
          exact ⟨ret_bool HF.out.symm, HB.out⟩
      · have hlti : ¬ (k : Int) < n := by omega
        have HF : Hid (us.all (shortT K) = true) := by
          have := HT.out
          rw [List.take_of_length_le (by rw [HN.out]; omega)] at this
          exact this
        have l3 := Lib.cell_of_heap H0.out 3
        have HD : Hid (decide ((v.str.size : Int) ≤ 2000) = (us.all (shortT K) && decide (v.str.size ≤ 2000))) := by
          show _ = _
          rw [HF.out, Bool.true_and]
          congr 1
          rw [eq_iff_iff]
          omega
        go_wp2_with fail
        go_ret
        exact ⟨ret_bool HD.out, HB.out⟩
end Go.Proofs.Ytlkeghfdpbfhbaa
namespace Go.Proofs.Ytlkeghfdpbfhbaa
set_option linter.unusedVariables false
open Go.ChangeShapes Go.WideShapes Go.ChangeAt Go.RowKit

theorem drewn_eq (w : World) (k : Nat) : ({ heap := w.heap, tape := w.tape, drawn := w.drawn + k, os := w.os, output := w.output } : World) = w.drewN k := rfl
set_option maxRecDepth 100000 in
set_option maxHeartbeats 2000000 in
theorem evalK_c (x : Nd) (hop : x.op = 1) (e : Value) (w : World) : Calls Try.prog 14 #[ndAgg x, e] w (GivesV w x.v) := by
  obtain ⟨op, v, dp, ai, nm, A, n, c, sA, sn, sc, ty⟩ := x
  simp only at hop
  subst hop
  obtain ⟨h1, h2, h3⟩ := trm_two w #[.int .i64 1, .int .i64 v.kind, .int .i64 v.num, .string v.str, .int .i64 dp, .int .i64 ai, .string nm, .slice A n c, .slice sA sn sc, .int .i64 ty]
  have H1 := hide h1
  have HX := hide h2
  have HB := hide h3
  clear h1 h2 h3
  unfold ndAgg ndObj
  simp only
  go_enter Try.func14, Try.ntmps14
  go_upto_region 1 with (fail)
  generalize (w.alloc (.cells #[.int .i64 1, .int .i64 v.kind, .int .i64 v.num, .string v.str, .int .i64 dp, .int .i64 ai, .string nm, .slice A n c, .slice sA sn sc, .int .i64 ty] 32)).alloc (.cells #[.int .i64 0, .int .i64 0, .string { data := #[] }] 26) = w1 at *
  have l0 := Lib.cell_of_heap H1.out 0
  have l1 := Lib.cell_of_heap H1.out 1
  have l2 := Lib.cell_of_heap H1.out 2
  have l3 := Lib.cell_of_heap H1.out 3
  obtain ⟨⟨c0, c1, c2⟩, ⟨y0, y1, y2⟩⟩ := HX.out.all
  have HS := hide (HX.out.set3 (v))
  have HBS := hide (below_setV HB.out (show w.heap.size ≤ w.heap.size + 1 by omega) (v))
  clear HX HB
  go_wp2_with fail
  exact end_v Try.results14 rfl rfl HS.out ⟨rfl, HBS.out⟩
set_option maxRecDepth 100000 in
set_option maxHeartbeats 2000000 in
theorem evalQ_c (x : Nd) (hop : x.op = 26 ∨ x.op = 27 ∨ x.op = 28) (e : Value) (w : World) : Calls Try.prog 14 #[ndAgg x, e] w (GivesV w nullV) := by
  rcases hop with hop | hop | hop
  · obtain ⟨op, v, dp, ai, nm, A, n, c, sA, sn, sc, ty⟩ := x
    simp only at hop
    subst hop
    obtain ⟨h1, h2, h3⟩ := trm_two w #[.int .i64 26, .int .i64 v.kind, .int .i64 v.num, .string v.str, .int .i64 dp, .int .i64 ai, .string nm, .slice A n c, .slice sA sn sc, .int .i64 ty]
    have H1 := hide h1
    have HX := hide h2
    have HB := hide h3
    clear h1 h2 h3
    unfold ndAgg ndObj
    simp only
    go_enter Try.func14, Try.ntmps14
    go_upto_region 1 with (fail)
    generalize (w.alloc (.cells #[.int .i64 26, .int .i64 v.kind, .int .i64 v.num, .string v.str, .int .i64 dp, .int .i64 ai, .string nm, .slice A n c, .slice sA sn sc, .int .i64 ty] 32)).alloc (.cells #[.int .i64 0, .int .i64 0, .string { data := #[] }] 26) = w1 at *
    have l0 := Lib.cell_of_heap H1.out 0
    obtain ⟨⟨c0, c1, c2⟩, ⟨y0, y1, y2⟩⟩ := HX.out.all
    have HS := hide (HX.out.set3 (nullV))
    have HBS := hide (below_setV HB.out (show w.heap.size ≤ w.heap.size + 1 by omega) (nullV))
    clear HX HB
    go_wp2_with fail
    exact end_v Try.results14 rfl rfl HS.out ⟨rfl, HBS.out⟩
  · obtain ⟨op, v, dp, ai, nm, A, n, c, sA, sn, sc, ty⟩ := x
    simp only at hop
    subst hop
    obtain ⟨h1, h2, h3⟩ := trm_two w #[.int .i64 27, .int .i64 v.kind, .int .i64 v.num, .string v.str, .int .i64 dp, .int .i64 ai, .string nm, .slice A n c, .slice sA sn sc, .int .i64 ty]
    have H1 := hide h1
    have HX := hide h2
    have HB := hide h3
    clear h1 h2 h3
    unfold ndAgg ndObj
    simp only
    go_enter Try.func14, Try.ntmps14
    go_upto_region 1 with (fail)
    generalize (w.alloc (.cells #[.int .i64 27, .int .i64 v.kind, .int .i64 v.num, .string v.str, .int .i64 dp, .int .i64 ai, .string nm, .slice A n c, .slice sA sn sc, .int .i64 ty] 32)).alloc (.cells #[.int .i64 0, .int .i64 0, .string { data := #[] }] 26) = w1 at *
    have l0 := Lib.cell_of_heap H1.out 0
    obtain ⟨⟨c0, c1, c2⟩, ⟨y0, y1, y2⟩⟩ := HX.out.all
    have HS := hide (HX.out.set3 (nullV))
    have HBS := hide (below_setV HB.out (show w.heap.size ≤ w.heap.size + 1 by omega) (nullV))
    clear HX HB
    go_wp2_with fail
    exact end_v Try.results14 rfl rfl HS.out ⟨rfl, HBS.out⟩
  · obtain ⟨op, v, dp, ai, nm, A, n, c, sA, sn, sc, ty⟩ := x
    simp only at hop
    subst hop
    obtain ⟨h1, h2, h3⟩ := trm_two w #[.int .i64 28, .int .i64 v.kind, .int .i64 v.num, .string v.str, .int .i64 dp, .int .i64 ai, .string nm, .slice A n c, .slice sA sn sc, .int .i64 ty]
    have H1 := hide h1
    have HX := hide h2
    have HB := hide h3
    clear h1 h2 h3
    unfold ndAgg ndObj
    simp only
    go_enter Try.func14, Try.ntmps14
    go_upto_region 1 with (fail)
    generalize (w.alloc (.cells #[.int .i64 28, .int .i64 v.kind, .int .i64 v.num, .string v.str, .int .i64 dp, .int .i64 ai, .string nm, .slice A n c, .slice sA sn sc, .int .i64 ty] 32)).alloc (.cells #[.int .i64 0, .int .i64 0, .string { data := #[] }] 26) = w1 at *
    have l0 := Lib.cell_of_heap H1.out 0
    obtain ⟨⟨c0, c1, c2⟩, ⟨y0, y1, y2⟩⟩ := HX.out.all
    have HS := hide (HX.out.set3 (nullV))
    have HBS := hide (below_setV HB.out (show w.heap.size ≤ w.heap.size + 1 by omega) (nullV))
    clear HX HB
    go_wp2_with fail
    exact end_v Try.results14 rfl rfl HS.out ⟨rfl, HBS.out⟩
set_option maxRecDepth 100000 in
set_option maxHeartbeats 4000000 in
theorem evalC_c (x : Nd) (hop : x.op = 2) (E : Option Addr) (m ce : Nat) (ps : List ER) (w : World) (he : EnvAt w w.heap.size E m ce ps) : Calls Try.prog 14 #[ndAgg x, .slice E m ce] w (GivesV w (colV ps x.dp x.ai)) := by
  obtain ⟨op, v, dp, ai, nm, A, n, c, sA, sn, sc, ty⟩ := x
  simp only at hop
  subst hop
  obtain ⟨h1, h2, h3⟩ := trm_two w #[.int .i64 2, .int .i64 v.kind, .int .i64 v.num, .string v.str, .int .i64 dp, .int .i64 ai, .string nm, .slice A n c, .slice sA sn sc, .int .i64 ty]
  have H1 := hide h1
  have HX := hide h2
  have HB := hide h3
  clear h1 h2 h3
  unfold ndAgg ndObj
  simp only
  have hpl := he.1.len
  have hmx := Nat.le_trans he.1.cap he.1.max
  unfold maxLen at hmx
  unfold colV
  by_cases hd0 : dp < 0
  · rw [if_neg (by omega)]
    clear he hpl hmx
    go_enter Try.func14, Try.ntmps14
    go_upto_region 1 with (fail)
    generalize (w.alloc (.cells #[.int .i64 2, .int .i64 v.kind, .int .i64 v.num, .string v.str, .int .i64 dp, .int .i64 ai, .string nm, .slice A n c, .slice sA sn sc, .int .i64 ty] 32)).alloc (.cells #[.int .i64 0, .int .i64 0, .string { data := #[] }] 26) = w1 at *
    have l0 := Lib.cell_of_heap H1.out 0
    have l4 := Lib.cell_of_heap H1.out 4
    have l5 := Lib.cell_of_heap H1.out 5
    go_upto_region 5 with (fail)
    go_quiet (fail)
    clear l0 l4 l5 
    replace HX := hide (show VB (w1.drewN nq) (w.heap.size + 1) nullV from HX.out)
    replace HB := hide (Bel.drewN HB.out nq)
    generalize w1.drewN nq = w2 at *
    obtain ⟨⟨c0, c1, c2⟩, ⟨y0, y1, y2⟩⟩ := HX.out.all
    have HS := hide (HX.out.set3 (nullV))
    have HBS := hide (below_setV HB.out (show w.heap.size ≤ w.heap.size + 1 by omega) (nullV))
    clear HX HB
    go_wp2_with fail
    exact end_v Try.results14 rfl rfl HS.out ⟨rfl, HBS.out⟩
  by_cases hdm : (m : Int) ≤ dp
  · have hv : (if 0 ≤ dp ∧ 0 ≤ ai then (((ps[dp.toNat]?).bind fun p => p.2.2.2[ai.toNat]?).getD nullV) else nullV) = nullV := by
      split
      · rw [List.getElem?_eq_none (by omega)]
        rfl
      · rfl
    rw [hv]
    clear hv he hpl hmx
    go_enter Try.func14, Try.ntmps14
    go_upto_region 1 with (fail)
    generalize (w.alloc (.cells #[.int .i64 2, .int .i64 v.kind, .int .i64 v.num, .string v.str, .int .i64 dp, .int .i64 ai, .string nm, .slice A n c, .slice sA sn sc, .int .i64 ty] 32)).alloc (.cells #[.int .i64 0, .int .i64 0, .string { data := #[] }] 26) = w1 at *
    have l0 := Lib.cell_of_heap H1.out 0
    have l4 := Lib.cell_of_heap H1.out 4
    have l5 := Lib.cell_of_heap H1.out 5
    go_upto_region 5 with (fail)
    go_quiet (fail)
    clear l0 l4 l5 
    replace HX := hide (show VB (w1.drewN nq) (w.heap.size + 1) nullV from HX.out)
    replace HB := hide (Bel.drewN HB.out nq)
    generalize w1.drewN nq = w2 at *
    obtain ⟨⟨c0, c1, c2⟩, ⟨y0, y1, y2⟩⟩ := HX.out.all
    have HS := hide (HX.out.set3 (nullV))
    have HBS := hide (below_setV HB.out (show w.heap.size ≤ w.heap.size + 1 by omega) (nullV))
    clear HX HB
    go_wp2_with fail
    exact end_v Try.results14 rfl rfl HS.out ⟨rfl, HBS.out⟩
  obtain ⟨D, rfl⟩ : ∃ D : Nat, dp = D := ⟨dp.toNat, by omega⟩
  have hDm : D < m := by omega
  have hDi : (D : Int) < (m : Int) := by omega
  by_cases ha0 : ai < 0
  · rw [if_neg (by omega)]
    clear he hpl hmx
    go_enter Try.func14, Try.ntmps14
    go_upto_region 1 with (fail)
    generalize (w.alloc (.cells #[.int .i64 2, .int .i64 v.kind, .int .i64 v.num, .string v.str, .int .i64 D, .int .i64 ai, .string nm, .slice A n c, .slice sA sn sc, .int .i64 ty] 32)).alloc (.cells #[.int .i64 0, .int .i64 0, .string { data := #[] }] 26) = w1 at *
    have l0 := Lib.cell_of_heap H1.out 0
    have l4 := Lib.cell_of_heap H1.out 4
    have l5 := Lib.cell_of_heap H1.out 5
    go_upto_region 5 with (fail)
    go_quiet (fail)
    clear l0 l4 l5 
    replace HX := hide (show VB (w1.drewN nq) (w.heap.size + 1) nullV from HX.out)
    replace HB := hide (Bel.drewN HB.out nq)
    generalize w1.drewN nq = w2 at *
    obtain ⟨⟨c0, c1, c2⟩, ⟨y0, y1, y2⟩⟩ := HX.out.all
    have HS := hide (HX.out.set3 (nullV))
    have HBS := hide (below_setV HB.out (show w.heap.size ≤ w.heap.size + 1 by omega) (nullV))
    clear HX HB
    go_wp2_with fail
    exact end_v Try.results14 rfl rfl HS.out ⟨rfl, HBS.out⟩
  obtain ⟨I, rfl⟩ : ∃ I : Nat, ai = I := ⟨ai.toNat, by omega⟩
  rw [if_pos ⟨by omega, by omega⟩, Int.toNat_natCast, Int.toNat_natCast]
  obtain ⟨eb, eo, q, rfl, heb, hq, hec⟩ := he.1.at (by omega) hDm
  have hrow := he.2 q (List.mem_of_getElem? hq)
  have he0 := hec 0 _ rfl
  rw [Nat.mul_one, Nat.add_zero] at he0
  obtain ⟨QA, qn, qc, ql⟩ := q
  simp only at hrow he0
  have hv : (((ps[D]?).bind fun p => p.2.2.2[I]?).getD nullV) = (ql[I]?).getD nullV := by rw [hq]; rfl
  rw [hv]
  have hqx := Nat.le_trans hrow.cap hrow.max
  unfold maxLen at hqx
  have HE := hide he0
  have HRW := hide hrow
  clear hv hec he hpl hq he0 hrow
  by_cases him : qn ≤ I
  · have hnone : (ql[I]?).getD nullV = nullV := by rw [List.getElem?_eq_none (by have := HRW.out.len; omega)]; rfl
    rw [hnone]
    have himi : (qn : Int) ≤ (I : Int) := by omega
    clear hnone HRW
    go_enter Try.func14, Try.ntmps14
    go_upto_region 1 with (fail)
    generalize (w.alloc (.cells #[.int .i64 2, .int .i64 v.kind, .int .i64 v.num, .string v.str, .int .i64 D, .int .i64 I, .string nm, .slice A n c, .slice sA sn sc, .int .i64 ty] 32)).alloc (.cells #[.int .i64 0, .int .i64 0, .string { data := #[] }] 26) = w1 at *
    have l0 := Lib.cell_of_heap H1.out 0
    have l4 := Lib.cell_of_heap H1.out 4
    have l5 := Lib.cell_of_heap H1.out 5
    have me := kept HB.out HE.out
    go_upto_region 5 with (fail)
    go_quiet (fail)
    clear l0 l4 l5 me
    replace HX := hide (show VB (w1.drewN nq) (w.heap.size + 1) nullV from HX.out)
    replace HB := hide (Bel.drewN HB.out nq)
    generalize w1.drewN nq = w2 at *
    obtain ⟨⟨c0, c1, c2⟩, ⟨y0, y1, y2⟩⟩ := HX.out.all
    have HS := hide (HX.out.set3 (nullV))
    have HBS := hide (below_setV HB.out (show w.heap.size ≤ w.heap.size + 1 by omega) (nullV))
    clear HX HB
    go_wp2_with fail
    exact end_v Try.results14 rfl rfl HS.out ⟨rfl, HBS.out⟩
  have hIi : (I : Int) < (qn : Int) := by omega
  have himi : ¬ (qn : Int) ≤ (I : Int) := by omega
  obtain ⟨rb, ro, u, rfl, hrb, hu, hrc⟩ := HRW.out.at (by omega) (show I < qn by omega)
  have hval : (ql[I]?).getD nullV = u := by rw [hu]; rfl
  rw [hval]
  have m0 := hrc 0 _ rfl
  have m1 := hrc 1 _ rfl
  have m2 := hrc 2 _ rfl
  rw [Nat.add_zero] at m0
  rw [← Nat.add_assoc] at m1 m2
  have M0 := hide (show Cl w rb (ro + I * 3) u.kind u.num u.str from ⟨hrb, m0, m1, m2⟩)
  clear hval hrc hu m0 m1 m2 HRW hrb
  go_enter Try.func14, Try.ntmps14
  go_upto_region 1 with (fail)
  generalize (w.alloc (.cells #[.int .i64 2, .int .i64 v.kind, .int .i64 v.num, .string v.str, .int .i64 D, .int .i64 I, .string nm, .slice A n c, .slice sA sn sc, .int .i64 ty] 32)).alloc (.cells #[.int .i64 0, .int .i64 0, .string { data := #[] }] 26) = w1 at *
  have l0 := Lib.cell_of_heap H1.out 0
  have l4 := Lib.cell_of_heap H1.out 4
  have l5 := Lib.cell_of_heap H1.out 5
  have me := kept HB.out HE.out
  go_upto_region 5 with (fail)
  go_quiet (fail)
  clear l0 l4 l5 me
  replace HX := hide (show VB (w1.drewN nq) (w.heap.size + 1) nullV from HX.out)
  replace HB := hide (Bel.drewN HB.out nq)
  replace H1 := hide (show Hp (w1.drewN nq) w.heap.size _ _ from H1.out)
  generalize w1.drewN nq = w2 at *
  go_upto_region 7 with (fail)
  refine wp_region_held_drew (S := (fun w' => Hp w' w.heap.size #[.int .i64 2, .int .i64 v.kind, .int .i64 v.num, .string v.str, .int .i64 D, .int .i64 I, .string nm, .slice A n c, .slice sA sn sc, .int .i64 ty] 32 ∧ (∃ u, VB w' (w.heap.size + 1) u) ∧ Below w.heap.size w w')) (by kernel_rfl) (⟨H1.out.kept (Below.refl _ _).drew, ⟨_, HX.out.kept (Below.refl _ _).drew⟩, HB.out.drew⟩) (fun hHeld => ?_)
  first | (refine wpAnyH_take (i := 0) (v := ?_) nth0 (by kernel_rfl) (by kernel_rfl) (by kernel_rfl) (fun _ _ _ h => h) (Or.inl ⟨by rfl, ?_⟩) hHeld ?_; rotate_left; focus (intro wS hSw; (have l4 := Lib.cell_of_heap hSw.1 4; have l5 := Lib.cell_of_heap hSw.1 5; have me := kept hSw.2.2 HE.out; obtain ⟨_, m0, m1, m2⟩ := M0.out.kept hSw.2.2); go_simp; try with_reducible rfl; done)) | (refine wpAnyH_take (i := 0) (v := undef) nth0 (by kernel_rfl) (by kernel_rfl) (by kernel_rfl) (fun _ _ _ h => h) (Or.inr ⟨by rfl, rfl⟩) hHeld ?_)
  (try simp only [Act.put]); (try simp only [List.setIfInBounds_toArray]); (try simp only [List.set_cons_succ]); (try simp only [List.set_cons_zero])
  first | (refine wpAnyH_take (i := 1) (v := ?_) nth1 (by kernel_rfl) (by kernel_rfl) (by kernel_rfl) (fun _ _ _ h => h) (Or.inl ⟨by rfl, ?_⟩) hHeld ?_; rotate_left; focus (intro wS hSw; (have l4 := Lib.cell_of_heap hSw.1 4; have l5 := Lib.cell_of_heap hSw.1 5; have me := kept hSw.2.2 HE.out; obtain ⟨_, m0, m1, m2⟩ := M0.out.kept hSw.2.2); go_simp; try with_reducible rfl; done)) | (refine wpAnyH_take (i := 1) (v := undef) nth1 (by kernel_rfl) (by kernel_rfl) (by kernel_rfl) (fun _ _ _ h => h) (Or.inr ⟨by rfl, rfl⟩) hHeld ?_)
  (try simp only [Act.put]); (try simp only [List.setIfInBounds_toArray]); (try simp only [List.set_cons_succ]); (try simp only [List.set_cons_zero])
  first | (refine wpAnyH_take (i := 2) (v := ?_) nth2 (by kernel_rfl) (by kernel_rfl) (by kernel_rfl) (fun _ _ _ h => h) (Or.inl ⟨by rfl, ?_⟩) hHeld ?_; rotate_left; focus (intro wS hSw; (have l4 := Lib.cell_of_heap hSw.1 4; have l5 := Lib.cell_of_heap hSw.1 5; have me := kept hSw.2.2 HE.out; obtain ⟨_, m0, m1, m2⟩ := M0.out.kept hSw.2.2); go_simp; try with_reducible rfl; done)) | (refine wpAnyH_take (i := 2) (v := undef) nth2 (by kernel_rfl) (by kernel_rfl) (by kernel_rfl) (fun _ _ _ h => h) (Or.inr ⟨by rfl, rfl⟩) hHeld ?_)
  (try simp only [Act.put]); (try simp only [List.setIfInBounds_toArray]); (try simp only [List.set_cons_succ]); (try simp only [List.set_cons_zero])
  first | (refine wpAnyH_take (i := 3) (v := ?_) nth3 (by kernel_rfl) (by kernel_rfl) (by kernel_rfl) (fun _ _ _ h => h) (Or.inl ⟨by rfl, ?_⟩) hHeld ?_; rotate_left; focus (intro wS hSw; (have l4 := Lib.cell_of_heap hSw.1 4; have l5 := Lib.cell_of_heap hSw.1 5; have me := kept hSw.2.2 HE.out; obtain ⟨_, m0, m1, m2⟩ := M0.out.kept hSw.2.2); go_simp; try with_reducible rfl; done)) | (refine wpAnyH_take (i := 3) (v := undef) nth3 (by kernel_rfl) (by kernel_rfl) (by kernel_rfl) (fun _ _ _ h => h) (Or.inr ⟨by rfl, rfl⟩) hHeld ?_)
  (try simp only [Act.put]); (try simp only [List.setIfInBounds_toArray]); (try simp only [List.set_cons_succ]); (try simp only [List.set_cons_zero])
  first | (refine wpAnyH_take (i := 4) (v := ?_) nth4 (by kernel_rfl) (by kernel_rfl) (by kernel_rfl) (fun _ _ _ h => h) (Or.inl ⟨by rfl, ?_⟩) hHeld ?_; rotate_left; focus (intro wS hSw; (have l4 := Lib.cell_of_heap hSw.1 4; have l5 := Lib.cell_of_heap hSw.1 5; have me := kept hSw.2.2 HE.out; obtain ⟨_, m0, m1, m2⟩ := M0.out.kept hSw.2.2); go_simp; try with_reducible rfl; done)) | (refine wpAnyH_take (i := 4) (v := undef) nth4 (by kernel_rfl) (by kernel_rfl) (by kernel_rfl) (fun _ _ _ h => h) (Or.inr ⟨by rfl, rfl⟩) hHeld ?_)
  (try simp only [Act.put]); (try simp only [List.setIfInBounds_toArray]); (try simp only [List.set_cons_succ]); (try simp only [List.set_cons_zero])
  first | (refine wpAnyH_take (i := 5) (v := ?_) nth5 (by kernel_rfl) (by kernel_rfl) (by kernel_rfl) (fun _ _ _ h => h) (Or.inl ⟨by rfl, ?_⟩) hHeld ?_; rotate_left; focus (intro wS hSw; (have l4 := Lib.cell_of_heap hSw.1 4; have l5 := Lib.cell_of_heap hSw.1 5; have me := kept hSw.2.2 HE.out; obtain ⟨_, m0, m1, m2⟩ := M0.out.kept hSw.2.2); go_simp; try with_reducible rfl; done)) | (refine wpAnyH_take (i := 5) (v := undef) nth5 (by kernel_rfl) (by kernel_rfl) (by kernel_rfl) (fun _ _ _ h => h) (Or.inr ⟨by rfl, rfl⟩) hHeld ?_)
  (try simp only [Act.put]); (try simp only [List.setIfInBounds_toArray]); (try simp only [List.set_cons_succ]); (try simp only [List.set_cons_zero])
  first | (refine wpAnyH_take (i := 6) (v := ?_) nth6 (by kernel_rfl) (by kernel_rfl) (by kernel_rfl) (fun _ _ _ h => h) (Or.inl ⟨by rfl, ?_⟩) hHeld ?_; rotate_left; focus (intro wS hSw; (have l4 := Lib.cell_of_heap hSw.1 4; have l5 := Lib.cell_of_heap hSw.1 5; have me := kept hSw.2.2 HE.out; obtain ⟨_, m0, m1, m2⟩ := M0.out.kept hSw.2.2); go_simp; try with_reducible rfl; done)) | (refine wpAnyH_take (i := 6) (v := undef) nth6 (by kernel_rfl) (by kernel_rfl) (by kernel_rfl) (fun _ _ _ h => h) (Or.inr ⟨by rfl, rfl⟩) hHeld ?_)
  (try simp only [Act.put]); (try simp only [List.setIfInBounds_toArray]); (try simp only [List.set_cons_succ]); (try simp only [List.set_cons_zero])
  first | (refine wpAnyH_take (i := 7) (v := ?_) nth7 (by kernel_rfl) (by kernel_rfl) (by kernel_rfl) (fun _ _ _ h => h) (Or.inl ⟨by rfl, ?_⟩) hHeld ?_; rotate_left; focus (intro wS hSw; (have l4 := Lib.cell_of_heap hSw.1 4; have l5 := Lib.cell_of_heap hSw.1 5; have me := kept hSw.2.2 HE.out; obtain ⟨_, m0, m1, m2⟩ := M0.out.kept hSw.2.2); go_simp; try with_reducible rfl; done)) | (refine wpAnyH_take (i := 7) (v := undef) nth7 (by kernel_rfl) (by kernel_rfl) (by kernel_rfl) (fun _ _ _ h => h) (Or.inr ⟨by rfl, rfl⟩) hHeld ?_)
  (try simp only [Act.put]); (try simp only [List.setIfInBounds_toArray]); (try simp only [List.set_cons_succ]); (try simp only [List.set_cons_zero])
  first | (refine wpAnyH_take (i := 8) (v := ?_) nth8 (by kernel_rfl) (by kernel_rfl) (by kernel_rfl) (fun _ _ _ h => h) (Or.inl ⟨by rfl, ?_⟩) hHeld ?_; rotate_left; focus (intro wS hSw; (have l4 := Lib.cell_of_heap hSw.1 4; have l5 := Lib.cell_of_heap hSw.1 5; have me := kept hSw.2.2 HE.out; obtain ⟨_, m0, m1, m2⟩ := M0.out.kept hSw.2.2); go_simp; try with_reducible rfl; done)) | (refine wpAnyH_take (i := 8) (v := undef) nth8 (by kernel_rfl) (by kernel_rfl) (by kernel_rfl) (fun _ _ _ h => h) (Or.inr ⟨by rfl, rfl⟩) hHeld ?_)
  (try simp only [Act.put]); (try simp only [List.setIfInBounds_toArray]); (try simp only [List.set_cons_succ]); (try simp only [List.set_cons_zero])
  refine wpAnyH_ready (rs := [9]) (by kernel_rfl) (by simp) ?_
  refine AllReadyH.cons nth9 (fun K hK => ?_) AllReadyH.nil
  obtain ⟨u3, hu3⟩ := hHeld.2.1
  have HS := hide (hu3.set3 u)
  have HBS := hide (below_setV hHeld.2.2 (show w.heap.size ≤ w.heap.size + 1 by omega) u)
  have HF := hide (hp_far hHeld.1 (show w.heap.size + 1 ≠ w.heap.size by omega) u)
  obtain ⟨⟨c0, c1, c2⟩, ⟨y0, y1, y2⟩⟩ := hu3.all
  have d1 : w2.cell? ⟨w.heap.size + 1, 1, none⟩ = _ := c1
  have d2 : w2.cell? ⟨w.heap.size + 1, 2, none⟩ = _ := c2
  have z1 : w2.frozen? ⟨w.heap.size + 1, 1, none⟩ = _ := y1
  have z2 : w2.frozen? ⟨w.heap.size + 1, 2, none⟩ = _ := y2
  go_simp
  refine hK.out _ _ (⟨HF.out, ⟨u, HS.out⟩, HBS.out⟩) (fun hHeld => ?_)
  clear hK K
  (try simp only [Act.put]); (try simp only [List.setIfInBounds_toArray]); (try simp only [List.set_cons_succ]); (try simp only [List.set_cons_zero])
  refine wpAnyH_done (by kernel_rfl) ?_ _
  clear hHeld
  go_wp2_with fail
  exact end_v Try.results14 rfl rfl HS.out ⟨rfl, HBS.out⟩
set_option maxRecDepth 100000 in
set_option maxHeartbeats 2000000 in
theorem revalK_c (x : Nd) (hop : x.op = 1) (e : Value) (w : World) : Calls Try.prog 15 #[ndAgg x, e] w (GivesV w x.v) := by
  obtain ⟨op, v, dp, ai, nm, A, n, c, sA, sn, sc, ty⟩ := x
  simp only at hop
  subst hop
  obtain ⟨h1, h2, h3⟩ := trm_two w #[.int .i64 1, .int .i64 v.kind, .int .i64 v.num, .string v.str, .int .i64 dp, .int .i64 ai, .string nm, .slice A n c, .slice sA sn sc, .int .i64 ty]
  have H1 := hide h1
  have HX := hide h2
  have HB := hide h3
  clear h1 h2 h3
  unfold ndAgg ndObj
  simp only
  go_enter Try.func15, Try.ntmps15
  go_upto_region 1 with (fail)
  generalize (w.alloc (.cells #[.int .i64 1, .int .i64 v.kind, .int .i64 v.num, .string v.str, .int .i64 dp, .int .i64 ai, .string nm, .slice A n c, .slice sA sn sc, .int .i64 ty] 32)).alloc (.cells #[.int .i64 0, .int .i64 0, .string { data := #[] }] 26) = w1 at *
  have l0 := Lib.cell_of_heap H1.out 0
  have l1 := Lib.cell_of_heap H1.out 1
  have l2 := Lib.cell_of_heap H1.out 2
  have l3 := Lib.cell_of_heap H1.out 3
  obtain ⟨⟨c0, c1, c2⟩, ⟨y0, y1, y2⟩⟩ := HX.out.all
  have HS := hide (HX.out.set3 (v))
  have HBS := hide (below_setV HB.out (show w.heap.size ≤ w.heap.size + 1 by omega) (v))
  clear HX HB
  go_wp2_with fail
  exact end_v Try.results15 rfl rfl HS.out ⟨rfl, HBS.out⟩
set_option maxRecDepth 100000 in
set_option maxHeartbeats 2000000 in
theorem revalQ_c (x : Nd) (hop : x.op = 26 ∨ x.op = 27 ∨ x.op = 28) (e : Value) (w : World) : Calls Try.prog 15 #[ndAgg x, e] w (GivesV w nullV) := by
  rcases hop with hop | hop | hop
  · obtain ⟨op, v, dp, ai, nm, A, n, c, sA, sn, sc, ty⟩ := x
    simp only at hop
    subst hop
    obtain ⟨h1, h2, h3⟩ := trm_two w #[.int .i64 26, .int .i64 v.kind, .int .i64 v.num, .string v.str, .int .i64 dp, .int .i64 ai, .string nm, .slice A n c, .slice sA sn sc, .int .i64 ty]
    have H1 := hide h1
    have HX := hide h2
    have HB := hide h3
    clear h1 h2 h3
    unfold ndAgg ndObj
    simp only
    go_enter Try.func15, Try.ntmps15
    go_upto_region 1 with (fail)
    generalize (w.alloc (.cells #[.int .i64 26, .int .i64 v.kind, .int .i64 v.num, .string v.str, .int .i64 dp, .int .i64 ai, .string nm, .slice A n c, .slice sA sn sc, .int .i64 ty] 32)).alloc (.cells #[.int .i64 0, .int .i64 0, .string { data := #[] }] 26) = w1 at *
    have l0 := Lib.cell_of_heap H1.out 0
    obtain ⟨⟨c0, c1, c2⟩, ⟨y0, y1, y2⟩⟩ := HX.out.all
    have HS := hide (HX.out.set3 (nullV))
    have HBS := hide (below_setV HB.out (show w.heap.size ≤ w.heap.size + 1 by omega) (nullV))
    clear HX HB
    go_wp2_with fail
    exact end_v Try.results15 rfl rfl HS.out ⟨rfl, HBS.out⟩
  · obtain ⟨op, v, dp, ai, nm, A, n, c, sA, sn, sc, ty⟩ := x
    simp only at hop
    subst hop
    obtain ⟨h1, h2, h3⟩ := trm_two w #[.int .i64 27, .int .i64 v.kind, .int .i64 v.num, .string v.str, .int .i64 dp, .int .i64 ai, .string nm, .slice A n c, .slice sA sn sc, .int .i64 ty]
    have H1 := hide h1
    have HX := hide h2
    have HB := hide h3
    clear h1 h2 h3
    unfold ndAgg ndObj
    simp only
    go_enter Try.func15, Try.ntmps15
    go_upto_region 1 with (fail)
    generalize (w.alloc (.cells #[.int .i64 27, .int .i64 v.kind, .int .i64 v.num, .string v.str, .int .i64 dp, .int .i64 ai, .string nm, .slice A n c, .slice sA sn sc, .int .i64 ty] 32)).alloc (.cells #[.int .i64 0, .int .i64 0, .string { data := #[] }] 26) = w1 at *
    have l0 := Lib.cell_of_heap H1.out 0
    obtain ⟨⟨c0, c1, c2⟩, ⟨y0, y1, y2⟩⟩ := HX.out.all
    have HS := hide (HX.out.set3 (nullV))
    have HBS := hide (below_setV HB.out (show w.heap.size ≤ w.heap.size + 1 by omega) (nullV))
    clear HX HB
    go_wp2_with fail
    exact end_v Try.results15 rfl rfl HS.out ⟨rfl, HBS.out⟩
  · obtain ⟨op, v, dp, ai, nm, A, n, c, sA, sn, sc, ty⟩ := x
    simp only at hop
    subst hop
    obtain ⟨h1, h2, h3⟩ := trm_two w #[.int .i64 28, .int .i64 v.kind, .int .i64 v.num, .string v.str, .int .i64 dp, .int .i64 ai, .string nm, .slice A n c, .slice sA sn sc, .int .i64 ty]
    have H1 := hide h1
    have HX := hide h2
    have HB := hide h3
    clear h1 h2 h3
    unfold ndAgg ndObj
    simp only
    go_enter Try.func15, Try.ntmps15
    go_upto_region 1 with (fail)
    generalize (w.alloc (.cells #[.int .i64 28, .int .i64 v.kind, .int .i64 v.num, .string v.str, .int .i64 dp, .int .i64 ai, .string nm, .slice A n c, .slice sA sn sc, .int .i64 ty] 32)).alloc (.cells #[.int .i64 0, .int .i64 0, .string { data := #[] }] 26) = w1 at *
    have l0 := Lib.cell_of_heap H1.out 0
    obtain ⟨⟨c0, c1, c2⟩, ⟨y0, y1, y2⟩⟩ := HX.out.all
    have HS := hide (HX.out.set3 (nullV))
    have HBS := hide (below_setV HB.out (show w.heap.size ≤ w.heap.size + 1 by omega) (nullV))
    clear HX HB
    go_wp2_with fail
    exact end_v Try.results15 rfl rfl HS.out ⟨rfl, HBS.out⟩
set_option maxRecDepth 100000 in
set_option maxHeartbeats 4000000 in
theorem revalC_c (x : Nd) (hop : x.op = 2) (E : Option Addr) (m ce : Nat) (ps : List ER) (w : World) (he : EnvAt w w.heap.size E m ce ps) : Calls Try.prog 15 #[ndAgg x, .slice E m ce] w (GivesV w (colV ps x.dp x.ai)) := by
  obtain ⟨op, v, dp, ai, nm, A, n, c, sA, sn, sc, ty⟩ := x
  simp only at hop
  subst hop
  obtain ⟨h1, h2, h3⟩ := trm_two w #[.int .i64 2, .int .i64 v.kind, .int .i64 v.num, .string v.str, .int .i64 dp, .int .i64 ai, .string nm, .slice A n c, .slice sA sn sc, .int .i64 ty]
  have H1 := hide h1
  have HX := hide h2
  have HB := hide h3
  clear h1 h2 h3
  unfold ndAgg ndObj
  simp only
  have hpl := he.1.len
  have hmx := Nat.le_trans he.1.cap he.1.max
  unfold maxLen at hmx
  unfold colV
  by_cases hd0 : dp < 0
  · rw [if_neg (by omega)]
    clear he hpl hmx
    go_enter Try.func15, Try.ntmps15
    go_upto_region 1 with (fail)
    generalize (w.alloc (.cells #[.int .i64 2, .int .i64 v.kind, .int .i64 v.num, .string v.str, .int .i64 dp, .int .i64 ai, .string nm, .slice A n c, .slice sA sn sc, .int .i64 ty] 32)).alloc (.cells #[.int .i64 0, .int .i64 0, .string { data := #[] }] 26) = w1 at *
    have l0 := Lib.cell_of_heap H1.out 0
    have l4 := Lib.cell_of_heap H1.out 4
    have l5 := Lib.cell_of_heap H1.out 5
    go_upto_region 5 with (fail)
    go_quiet (fail)
    clear l0 l4 l5 
    replace HX := hide (show VB (w1.drewN nq) (w.heap.size + 1) nullV from HX.out)
    replace HB := hide (Bel.drewN HB.out nq)
    generalize w1.drewN nq = w2 at *
    obtain ⟨⟨c0, c1, c2⟩, ⟨y0, y1, y2⟩⟩ := HX.out.all
    have HS := hide (HX.out.set3 (nullV))
    have HBS := hide (below_setV HB.out (show w.heap.size ≤ w.heap.size + 1 by omega) (nullV))
    clear HX HB
    go_wp2_with fail
    exact end_v Try.results15 rfl rfl HS.out ⟨rfl, HBS.out⟩
  by_cases hdm : (m : Int) ≤ dp
  · have hv : (if 0 ≤ dp ∧ 0 ≤ ai then (((ps[dp.toNat]?).bind fun p => p.2.2.2[ai.toNat]?).getD nullV) else nullV) = nullV := by
      split
      · rw [List.getElem?_eq_none (by omega)]
        rfl
      · rfl
    rw [hv]
    clear hv he hpl hmx
    go_enter Try.func15, Try.ntmps15
    go_upto_region 1 with (fail)
    generalize (w.alloc (.cells #[.int .i64 2, .int .i64 v.kind, .int .i64 v.num, .string v.str, .int .i64 dp, .int .i64 ai, .string nm, .slice A n c, .slice sA sn sc, .int .i64 ty] 32)).alloc (.cells #[.int .i64 0, .int .i64 0, .string { data := #[] }] 26) = w1 at *
    have l0 := Lib.cell_of_heap H1.out 0
    have l4 := Lib.cell_of_heap H1.out 4
    have l5 := Lib.cell_of_heap H1.out 5
    go_upto_region 5 with (fail)
    go_quiet (fail)
    clear l0 l4 l5 
    replace HX := hide (show VB (w1.drewN nq) (w.heap.size + 1) nullV from HX.out)
    replace HB := hide (Bel.drewN HB.out nq)
    generalize w1.drewN nq = w2 at *
    obtain ⟨⟨c0, c1, c2⟩, ⟨y0, y1, y2⟩⟩ := HX.out.all
    have HS := hide (HX.out.set3 (nullV))
    have HBS := hide (below_setV HB.out (show w.heap.size ≤ w.heap.size + 1 by omega) (nullV))
    clear HX HB
    go_wp2_with fail
    exact end_v Try.results15 rfl rfl HS.out ⟨rfl, HBS.out⟩
  obtain ⟨D, rfl⟩ : ∃ D : Nat, dp = D := ⟨dp.toNat, by omega⟩
  have hDm : D < m := by omega
  have hDi : (D : Int) < (m : Int) := by omega
  by_cases ha0 : ai < 0
  · rw [if_neg (by omega)]
    clear he hpl hmx
    go_enter Try.func15, Try.ntmps15
    go_upto_region 1 with (fail)
    generalize (w.alloc (.cells #[.int .i64 2, .int .i64 v.kind, .int .i64 v.num, .string v.str, .int .i64 D, .int .i64 ai, .string nm, .slice A n c, .slice sA sn sc, .int .i64 ty] 32)).alloc (.cells #[.int .i64 0, .int .i64 0, .string { data := #[] }] 26) = w1 at *
    have l0 := Lib.cell_of_heap H1.out 0
    have l4 := Lib.cell_of_heap H1.out 4
    have l5 := Lib.cell_of_heap H1.out 5
    go_upto_region 5 with (fail)
    go_quiet (fail)
    clear l0 l4 l5 
    replace HX := hide (show VB (w1.drewN nq) (w.heap.size + 1) nullV from HX.out)
    replace HB := hide (Bel.drewN HB.out nq)
    generalize w1.drewN nq = w2 at *
    obtain ⟨⟨c0, c1, c2⟩, ⟨y0, y1, y2⟩⟩ := HX.out.all
    have HS := hide (HX.out.set3 (nullV))
    have HBS := hide (below_setV HB.out (show w.heap.size ≤ w.heap.size + 1 by omega) (nullV))
    clear HX HB
    go_wp2_with fail
    exact end_v Try.results15 rfl rfl HS.out ⟨rfl, HBS.out⟩
  obtain ⟨I, rfl⟩ : ∃ I : Nat, ai = I := ⟨ai.toNat, by omega⟩
  rw [if_pos ⟨by omega, by omega⟩, Int.toNat_natCast, Int.toNat_natCast]
  obtain ⟨eb, eo, q, rfl, heb, hq, hec⟩ := he.1.at (by omega) hDm
  have hrow := he.2 q (List.mem_of_getElem? hq)
  have he0 := hec 0 _ rfl
  rw [Nat.mul_one, Nat.add_zero] at he0
  obtain ⟨QA, qn, qc, ql⟩ := q
  simp only at hrow he0
  have hv : (((ps[D]?).bind fun p => p.2.2.2[I]?).getD nullV) = (ql[I]?).getD nullV := by rw [hq]; rfl
  rw [hv]
  have hqx := Nat.le_trans hrow.cap hrow.max
  unfold maxLen at hqx
  have HE := hide he0
  have HRW := hide hrow
  clear hv hec he hpl hq he0 hrow
  by_cases him : qn ≤ I
  · have hnone : (ql[I]?).getD nullV = nullV := by rw [List.getElem?_eq_none (by have := HRW.out.len; omega)]; rfl
    rw [hnone]
    have himi : (qn : Int) ≤ (I : Int) := by omega
    clear hnone HRW
    go_enter Try.func15, Try.ntmps15
    go_upto_region 1 with (fail)
    generalize (w.alloc (.cells #[.int .i64 2, .int .i64 v.kind, .int .i64 v.num, .string v.str, .int .i64 D, .int .i64 I, .string nm, .slice A n c, .slice sA sn sc, .int .i64 ty] 32)).alloc (.cells #[.int .i64 0, .int .i64 0, .string { data := #[] }] 26) = w1 at *
    have l0 := Lib.cell_of_heap H1.out 0
    have l4 := Lib.cell_of_heap H1.out 4
    have l5 := Lib.cell_of_heap H1.out 5
    have me := kept HB.out HE.out
    go_upto_region 5 with (fail)
    go_quiet (fail)
    clear l0 l4 l5 me
    replace HX := hide (show VB (w1.drewN nq) (w.heap.size + 1) nullV from HX.out)
    replace HB := hide (Bel.drewN HB.out nq)
    generalize w1.drewN nq = w2 at *
    obtain ⟨⟨c0, c1, c2⟩, ⟨y0, y1, y2⟩⟩ := HX.out.all
    have HS := hide (HX.out.set3 (nullV))
    have HBS := hide (below_setV HB.out (show w.heap.size ≤ w.heap.size + 1 by omega) (nullV))
    clear HX HB
    go_wp2_with fail
    exact end_v Try.results15 rfl rfl HS.out ⟨rfl, HBS.out⟩
  have hIi : (I : Int) < (qn : Int) := by omega
  have himi : ¬ (qn : Int) ≤ (I : Int) := by omega
  obtain ⟨rb, ro, u, rfl, hrb, hu, hrc⟩ := HRW.out.at (by omega) (show I < qn by omega)
  have hval : (ql[I]?).getD nullV = u := by rw [hu]; rfl
  rw [hval]
  have m0 := hrc 0 _ rfl
  have m1 := hrc 1 _ rfl
  have m2 := hrc 2 _ rfl
  rw [Nat.add_zero] at m0
  rw [← Nat.add_assoc] at m1 m2
  have M0 := hide (show Cl w rb (ro + I * 3) u.kind u.num u.str from ⟨hrb, m0, m1, m2⟩)
  clear hval hrc hu m0 m1 m2 HRW hrb
  go_enter Try.func15, Try.ntmps15
  go_upto_region 1 with (fail)
  generalize (w.alloc (.cells #[.int .i64 2, .int .i64 v.kind, .int .i64 v.num, .string v.str, .int .i64 D, .int .i64 I, .string nm, .slice A n c, .slice sA sn sc, .int .i64 ty] 32)).alloc (.cells #[.int .i64 0, .int .i64 0, .string { data := #[] }] 26) = w1 at *
  have l0 := Lib.cell_of_heap H1.out 0
  have l4 := Lib.cell_of_heap H1.out 4
  have l5 := Lib.cell_of_heap H1.out 5
  have me := kept HB.out HE.out
  go_upto_region 5 with (fail)
  go_quiet (fail)
  clear l0 l4 l5 me
  replace HX := hide (show VB (w1.drewN nq) (w.heap.size + 1) nullV from HX.out)
  replace HB := hide (Bel.drewN HB.out nq)
  replace H1 := hide (show Hp (w1.drewN nq) w.heap.size _ _ from H1.out)
  generalize w1.drewN nq = w2 at *
  go_upto_region 7 with (fail)
  refine wp_region_held_drew (S := (fun w' => Hp w' w.heap.size #[.int .i64 2, .int .i64 v.kind, .int .i64 v.num, .string v.str, .int .i64 D, .int .i64 I, .string nm, .slice A n c, .slice sA sn sc, .int .i64 ty] 32 ∧ (∃ u, VB w' (w.heap.size + 1) u) ∧ Below w.heap.size w w')) (by kernel_rfl) (⟨H1.out.kept (Below.refl _ _).drew, ⟨_, HX.out.kept (Below.refl _ _).drew⟩, HB.out.drew⟩) (fun hHeld => ?_)
  first | (refine wpAnyH_take (i := 0) (v := ?_) nth0 (by kernel_rfl) (by kernel_rfl) (by kernel_rfl) (fun _ _ _ h => h) (Or.inl ⟨by rfl, ?_⟩) hHeld ?_; rotate_left; focus (intro wS hSw; (have l4 := Lib.cell_of_heap hSw.1 4; have l5 := Lib.cell_of_heap hSw.1 5; have me := kept hSw.2.2 HE.out; obtain ⟨_, m0, m1, m2⟩ := M0.out.kept hSw.2.2); go_simp; try with_reducible rfl; done)) | (refine wpAnyH_take (i := 0) (v := undef) nth0 (by kernel_rfl) (by kernel_rfl) (by kernel_rfl) (fun _ _ _ h => h) (Or.inr ⟨by rfl, rfl⟩) hHeld ?_)
  (try simp only [Act.put]); (try simp only [List.setIfInBounds_toArray]); (try simp only [List.set_cons_succ]); (try simp only [List.set_cons_zero])
  first | (refine wpAnyH_take (i := 1) (v := ?_) nth1 (by kernel_rfl) (by kernel_rfl) (by kernel_rfl) (fun _ _ _ h => h) (Or.inl ⟨by rfl, ?_⟩) hHeld ?_; rotate_left; focus (intro wS hSw; (have l4 := Lib.cell_of_heap hSw.1 4; have l5 := Lib.cell_of_heap hSw.1 5; have me := kept hSw.2.2 HE.out; obtain ⟨_, m0, m1, m2⟩ := M0.out.kept hSw.2.2); go_simp; try with_reducible rfl; done)) | (refine wpAnyH_take (i := 1) (v := undef) nth1 (by kernel_rfl) (by kernel_rfl) (by kernel_rfl) (fun _ _ _ h => h) (Or.inr ⟨by rfl, rfl⟩) hHeld ?_)
  (try simp only [Act.put]); (try simp only [List.setIfInBounds_toArray]); (try simp only [List.set_cons_succ]); (try simp only [List.set_cons_zero])
  first | (refine wpAnyH_take (i := 2) (v := ?_) nth2 (by kernel_rfl) (by kernel_rfl) (by kernel_rfl) (fun _ _ _ h => h) (Or.inl ⟨by rfl, ?_⟩) hHeld ?_; rotate_left; focus (intro wS hSw; (have l4 := Lib.cell_of_heap hSw.1 4; have l5 := Lib.cell_of_heap hSw.1 5; have me := kept hSw.2.2 HE.out; obtain ⟨_, m0, m1, m2⟩ := M0.out.kept hSw.2.2); go_simp; try with_reducible rfl; done)) | (refine wpAnyH_take (i := 2) (v := undef) nth2 (by kernel_rfl) (by kernel_rfl) (by kernel_rfl) (fun _ _ _ h => h) (Or.inr ⟨by rfl, rfl⟩) hHeld ?_)
  (try simp only [Act.put]); (try simp only [List.setIfInBounds_toArray]); (try simp only [List.set_cons_succ]); (try simp only [List.set_cons_zero])
  first | (refine wpAnyH_take (i := 3) (v := ?_) nth3 (by kernel_rfl) (by kernel_rfl) (by kernel_rfl) (fun _ _ _ h => h) (Or.inl ⟨by rfl, ?_⟩) hHeld ?_; rotate_left; focus (intro wS hSw; (have l4 := Lib.cell_of_heap hSw.1 4; have l5 := Lib.cell_of_heap hSw.1 5; have me := kept hSw.2.2 HE.out; obtain ⟨_, m0, m1, m2⟩ := M0.out.kept hSw.2.2); go_simp; try with_reducible rfl; done)) | (refine wpAnyH_take (i := 3) (v := undef) nth3 (by kernel_rfl) (by kernel_rfl) (by kernel_rfl) (fun _ _ _ h => h) (Or.inr ⟨by rfl, rfl⟩) hHeld ?_)
  (try simp only [Act.put]); (try simp only [List.setIfInBounds_toArray]); (try simp only [List.set_cons_succ]); (try simp only [List.set_cons_zero])
  first | (refine wpAnyH_take (i := 4) (v := ?_) nth4 (by kernel_rfl) (by kernel_rfl) (by kernel_rfl) (fun _ _ _ h => h) (Or.inl ⟨by rfl, ?_⟩) hHeld ?_; rotate_left; focus (intro wS hSw; (have l4 := Lib.cell_of_heap hSw.1 4; have l5 := Lib.cell_of_heap hSw.1 5; have me := kept hSw.2.2 HE.out; obtain ⟨_, m0, m1, m2⟩ := M0.out.kept hSw.2.2); go_simp; try with_reducible rfl; done)) | (refine wpAnyH_take (i := 4) (v := undef) nth4 (by kernel_rfl) (by kernel_rfl) (by kernel_rfl) (fun _ _ _ h => h) (Or.inr ⟨by rfl, rfl⟩) hHeld ?_)
  (try simp only [Act.put]); (try simp only [List.setIfInBounds_toArray]); (try simp only [List.set_cons_succ]); (try simp only [List.set_cons_zero])
  first | (refine wpAnyH_take (i := 5) (v := ?_) nth5 (by kernel_rfl) (by kernel_rfl) (by kernel_rfl) (fun _ _ _ h => h) (Or.inl ⟨by rfl, ?_⟩) hHeld ?_; rotate_left; focus (intro wS hSw; (have l4 := Lib.cell_of_heap hSw.1 4; have l5 := Lib.cell_of_heap hSw.1 5; have me := kept hSw.2.2 HE.out; obtain ⟨_, m0, m1, m2⟩ := M0.out.kept hSw.2.2); go_simp; try with_reducible rfl; done)) | (refine wpAnyH_take (i := 5) (v := undef) nth5 (by kernel_rfl) (by kernel_rfl) (by kernel_rfl) (fun _ _ _ h => h) (Or.inr ⟨by rfl, rfl⟩) hHeld ?_)
  (try simp only [Act.put]); (try simp only [List.setIfInBounds_toArray]); (try simp only [List.set_cons_succ]); (try simp only [List.set_cons_zero])
  first | (refine wpAnyH_take (i := 6) (v := ?_) nth6 (by kernel_rfl) (by kernel_rfl) (by kernel_rfl) (fun _ _ _ h => h) (Or.inl ⟨by rfl, ?_⟩) hHeld ?_; rotate_left; focus (intro wS hSw; (have l4 := Lib.cell_of_heap hSw.1 4; have l5 := Lib.cell_of_heap hSw.1 5; have me := kept hSw.2.2 HE.out; obtain ⟨_, m0, m1, m2⟩ := M0.out.kept hSw.2.2); go_simp; try with_reducible rfl; done)) | (refine wpAnyH_take (i := 6) (v := undef) nth6 (by kernel_rfl) (by kernel_rfl) (by kernel_rfl) (fun _ _ _ h => h) (Or.inr ⟨by rfl, rfl⟩) hHeld ?_)
  (try simp only [Act.put]); (try simp only [List.setIfInBounds_toArray]); (try simp only [List.set_cons_succ]); (try simp only [List.set_cons_zero])
  first | (refine wpAnyH_take (i := 7) (v := ?_) nth7 (by kernel_rfl) (by kernel_rfl) (by kernel_rfl) (fun _ _ _ h => h) (Or.inl ⟨by rfl, ?_⟩) hHeld ?_; rotate_left; focus (intro wS hSw; (have l4 := Lib.cell_of_heap hSw.1 4; have l5 := Lib.cell_of_heap hSw.1 5; have me := kept hSw.2.2 HE.out; obtain ⟨_, m0, m1, m2⟩ := M0.out.kept hSw.2.2); go_simp; try with_reducible rfl; done)) | (refine wpAnyH_take (i := 7) (v := undef) nth7 (by kernel_rfl) (by kernel_rfl) (by kernel_rfl) (fun _ _ _ h => h) (Or.inr ⟨by rfl, rfl⟩) hHeld ?_)
  (try simp only [Act.put]); (try simp only [List.setIfInBounds_toArray]); (try simp only [List.set_cons_succ]); (try simp only [List.set_cons_zero])
  first | (refine wpAnyH_take (i := 8) (v := ?_) nth8 (by kernel_rfl) (by kernel_rfl) (by kernel_rfl) (fun _ _ _ h => h) (Or.inl ⟨by rfl, ?_⟩) hHeld ?_; rotate_left; focus (intro wS hSw; (have l4 := Lib.cell_of_heap hSw.1 4; have l5 := Lib.cell_of_heap hSw.1 5; have me := kept hSw.2.2 HE.out; obtain ⟨_, m0, m1, m2⟩ := M0.out.kept hSw.2.2); go_simp; try with_reducible rfl; done)) | (refine wpAnyH_take (i := 8) (v := undef) nth8 (by kernel_rfl) (by kernel_rfl) (by kernel_rfl) (fun _ _ _ h => h) (Or.inr ⟨by rfl, rfl⟩) hHeld ?_)
  (try simp only [Act.put]); (try simp only [List.setIfInBounds_toArray]); (try simp only [List.set_cons_succ]); (try simp only [List.set_cons_zero])
  refine wpAnyH_ready (rs := [9]) (by kernel_rfl) (by simp) ?_
  refine AllReadyH.cons nth9 (fun K hK => ?_) AllReadyH.nil
  obtain ⟨u3, hu3⟩ := hHeld.2.1
  have HS := hide (hu3.set3 u)
  have HBS := hide (below_setV hHeld.2.2 (show w.heap.size ≤ w.heap.size + 1 by omega) u)
  have HF := hide (hp_far hHeld.1 (show w.heap.size + 1 ≠ w.heap.size by omega) u)
  obtain ⟨⟨c0, c1, c2⟩, ⟨y0, y1, y2⟩⟩ := hu3.all
  have d1 : w2.cell? ⟨w.heap.size + 1, 1, none⟩ = _ := c1
  have d2 : w2.cell? ⟨w.heap.size + 1, 2, none⟩ = _ := c2
  have z1 : w2.frozen? ⟨w.heap.size + 1, 1, none⟩ = _ := y1
  have z2 : w2.frozen? ⟨w.heap.size + 1, 2, none⟩ = _ := y2
  go_simp
  refine hK.out _ _ (⟨HF.out, ⟨u, HS.out⟩, HBS.out⟩) (fun hHeld => ?_)
  clear hK K
  (try simp only [Act.put]); (try simp only [List.setIfInBounds_toArray]); (try simp only [List.set_cons_succ]); (try simp only [List.set_cons_zero])
  refine wpAnyH_done (by kernel_rfl) ?_ _
  clear hHeld
  go_wp2_with fail
  exact end_v Try.results15 rfl rfl HS.out ⟨rfl, HBS.out⟩
end Go.Proofs.Ytlkeghfdpbfhbaa
namespace Go.Proofs.Ytlkeghfdpbfhbaa
set_option linter.unusedVariables false
open Go.ChangeShapes Go.WideShapes Go.ChangeAt Go.RowKit

theorem val_info3 : (Try.prog.info? 26).map (fun i => (i.zero, i.size, i.bytes)) = some (some (.agg #[.int .i64 0, .int .i64 0, .string .empty]), 3, 32) := by kernel_rfl
def vsObj (l : List ValV) : Array Value := (l.map valCells).flatten.toArray
def KsAt (w : World) (g : Nat) (l : List ValV) : Prop := Hp w g (vsObj l) 26
def setV3 (w : World) (b o : Nat) (v : ValV) : World := ((w.setCell ⟨b, o, none⟩ (.int .i64 v.kind)).setCell ⟨b, o + 1, none⟩ (.int .i64 v.num)).setCell ⟨b, o + 2, none⟩ (.string v.str)
theorem val_len3 (l : List ValV) : ∀ ys ∈ l.map valCells, ys.length = 3 := by
  intro ys hy
  obtain ⟨v, _, rfl⟩ := List.mem_map.1 hy
  rfl
theorem flat_set3 : ∀ (l : List ValV) (i : Nat) (v : ValV), i < l.length → ((((l.map valCells).flatten).set (i * 3) (.int .i64 v.kind)).set (i * 3 + 1) (.int .i64 v.num)).set (i * 3 + 2) (.string v.str) = ((l.set i v).map valCells).flatten
  | [], i, v, h => by simp at h
  | x :: l, 0, v, _ => by simp [valCells]
  | x :: l, i + 1, v, h => by
    have ih := flat_set3 l i v (by simpa using h)
    have e0 : (i + 1) * 3 = i * 3 + 1 + 1 + 1 := by omega
    have e1 : (i + 1) * 3 + 1 = (i * 3 + 1) + 1 + 1 + 1 := by omega
    have e2 : (i + 1) * 3 + 2 = (i * 3 + 2) + 1 + 1 + 1 := by omega
    rw [e2, e1, e0, List.set_cons_succ, List.map_cons, List.map_cons, List.flatten_cons, List.flatten_cons, ← ih]
    simp only [valCells, List.cons_append, List.nil_append, List.set_cons_succ]
theorem KsAt.lt {w : World} {g : Nat} {l : List ValV} (h : KsAt w g l) : g < w.heap.size := Hp.lt h
theorem KsAt.kept {w w' : World} {g : Nat} {l : List ValV} (h : KsAt w g l) (hb : Below w.heap.size w w') : KsAt w' g l := Hp.kept h hb
theorem KsAt.set {w : World} {g : Nat} {l : List ValV} (h : KsAt w g l) {i : Nat} (hi : i < l.length) (v : ValV) : KsAt (setV3 w g (i * 3) v) g (l.set i v) := by
  have e : vsObj (l.set i v) = (((vsObj l).setIfInBounds (i * 3) (.int .i64 v.kind)).setIfInBounds (i * 3 + 1) (.int .i64 v.num)).setIfInBounds (i * 3 + 2) (.string v.str) := by
    unfold vsObj
    rw [List.setIfInBounds_toArray, List.setIfInBounds_toArray, List.setIfInBounds_toArray, flat_set3 l i v hi]
  unfold KsAt Hp at *
  rw [e]
  unfold setV3
  simp [World.setCell, Array.getElem?_modify, h]
theorem KsAt.cells {w : World} {g : Nat} {l : List ValV} (h : KsAt w g l) {i : Nat} (hi : i < l.length) :
    (∃ a b c, w.cell? ⟨g, i * 3, none⟩ = some a ∧ w.cell? ⟨g, i * 3 + 1, none⟩ = some b ∧ w.cell? ⟨g, i * 3 + 2, none⟩ = some c) ∧ w.frozen? ⟨g, i * 3, none⟩ = false ∧ w.frozen? ⟨g, i * 3 + 1, none⟩ = false ∧ w.frozen? ⟨g, i * 3 + 2, none⟩ = false := by
  have hc : ∀ j u, (valCells (l[i]'hi))[j]? = some u → w.cell? ⟨g, i * 3 + j, none⟩ = some u := fun j u hu => by
    have h1 := flat_get (l.map valCells) 3 i j (valCells (l[i]'hi)) u (val_len3 l) (by rw [List.getElem?_map, List.getElem?_eq_getElem hi]; rfl) hu
    rw [cell_of_row w g (i * 3 + j) _ _ (0, 0) h]
    unfold vsObj
    simpa using h1
  exact ⟨⟨_, _, _, hc 0 _ rfl, hc 1 _ rfl, hc 2 _ rfl⟩, Lib.frozen_of_heap h _, Lib.frozen_of_heap h _, Lib.frozen_of_heap h _⟩
theorem KsAt.row {w : World} {g n : Nat} {l : List ValV} (h : KsAt w g l) (hl : l.length = n) (hm : n ≤ maxLen) : RowV w w.heap.size (some ⟨g, 0, none⟩) n n l := row_blk h (by unfold vsObj; simp) hl hm
theorem setV3_block (w : World) (b o : Nat) (v : ValV) {g : Nat} (hne : b ≠ g) : (setV3 w b o v).heap[g]? = w.heap[g]? := by
  unfold setV3
  simp [World.setCell, Array.getElem?_modify, hne]
theorem below_setV3 {B b : Nat} {w w1 : World} (h : Below B w w1) (hb : B ≤ b) (o : Nat) (v : ValV) : Below B w (setV3 w1 b o v) :=
  ((h.setCell (p := ⟨b, o, none⟩) hb _).setCell (p := ⟨b, o + 1, none⟩) hb _).setCell (p := ⟨b, o + 2, none⟩) hb _
theorem made_vs (n : Nat) : madeCells #[.int .i64 0, .int .i64 0, .string .empty] (n * 3) = vsObj (List.replicate n nullV) := by
  have hl : (vsObj (List.replicate n nullV)).size = n * 3 := by
    unfold vsObj
    rw [List.size_toArray, flat_len _ 3 (val_len3 _), List.length_map, List.length_replicate]
  apply Array.ext
  · rw [size_madeCells, hl]
  · intro j h1 h2
    rw [size_madeCells] at h1
    have g1 : ((List.replicate n nullV).map valCells)[j / 3]? = some (valCells nullV) := by
      rw [List.getElem?_map, List.getElem?_replicate, if_pos (by omega)]
      rfl
    have h3 : j % 3 = 0 ∨ j % 3 = 1 ∨ j % 3 = 2 := by omega
    have g2 : (valCells nullV)[j % 3]? = some ((#[.int .i64 0, .int .i64 0, .string .empty] : Array Value)[j % 3]!) := by
      rcases h3 with h | h | h <;> rw [h] <;> rfl
    have g3 := flat_get _ 3 (j / 3) (j % 3) _ _ (val_len3 _) g1 g2
    rw [show j / 3 * 3 + j % 3 = j by omega] at g3
    have g4 : (vsObj (List.replicate n nullV))[j]? = some ((#[.int .i64 0, .int .i64 0, .string .empty] : Array Value)[j % 3]!) := by
      unfold vsObj
      simpa using g3
    rw [Array.getElem?_eq_getElem h2] at g4
    injection g4 with g4
    rw [g4]
    simp [madeCells]
theorem ks_of_own {w : World} {base g n : Nat} {xs : List Value} {l : List ValV} (h : w.ownsRow base 26 3 (.slice (some ⟨g, 0, none⟩) n n) n xs) (hx : xs = (vsObj l).toList) (hl : l.length = n) : KsAt w g l := by
  rcases h.2 with ⟨hv, _⟩ | ⟨g', cap, cur, hv, _, hg, _, _, hcs, ht⟩
  · injection hv with h1
    cases h1
  · injection hv with h1 h2 h3
    injection h1 with h1
    injection h1 with h1
    subst h1 h3
    have hc : cur = vsObj l := by
      apply Array.ext'
      rw [← hx, ← ht, List.take_of_length_le (by rw [Array.length_toList]; omega)]
    rw [hc] at hg
    exact hg
theorem part_step {L : List ValV} {k n : Nat} {v : ValV} (h : L[k]? = some v) (hl : L.length = n) : (L.take k ++ List.replicate (n - k) nullV).set k v = L.take (k + 1) ++ List.replicate (n - (k + 1)) nullV := by
  have hk := (List.getElem?_eq_some_iff.1 h).1
  have h1 : (L.take k).length = k := by rw [List.length_take]; omega
  rw [List.set_append_right _ _ (by omega), h1, Nat.sub_self, take_at h, show n - k = (n - (k + 1)) + 1 by omega, List.replicate_succ, List.set_cons_zero, List.append_assoc]
  rfl
theorem part_len {L : List ValV} {k n : Nat} (hk : k ≤ n) (hl : L.length = n) : (L.take k ++ List.replicate (n - k) nullV).length = n := by
  rw [List.length_append, List.length_take, List.length_replicate]
  omega
set_option maxRecDepth 100000 in
set_option maxHeartbeats 8000000 in
theorem eval_c (N : Nat) (hN : N ≤ 1048576) (M : Nat) (hM1 : 2000 ≤ M) (hM2 : M ≤ 1048576) (E : Option Addr) (m ce : Nat) (ps : List ER) (hps : ∀ p ∈ ps, ∀ v ∈ p.2.2.2, v.str.size ≤ M) : ∀ (K d : Nat) (x : Nd) (t : Trm) (w : World), smallT N K t = true → shortT K t = true → TAt w w.heap.size d x t → EnvAt w w.heap.size E m ce ps → Calls Try.prog 14 #[ndAgg x, .slice E m ce] w (GivesV w (evalT ps K t))
  | K, 0, x, t, w, _, _, h, _ => h.elim
  | 0, d + 1, x, t, w, hm, _, _, _ => by rw [smallT] at hm; cases hm
  | K + 1, d + 1, x, t, w, hm, hsh, h, he => by
    obtain ⟨⟨ho, hxv, hdp, hai, hnm⟩, l, hs, hl, hk⟩ := h
    rw [smallT, Bool.and_eq_true, decide_eq_true_eq] at hm
    rw [shortT, Bool.and_eq_true, decide_eq_true_eq] at hsh
    by_cases h1 : x.op = 1
    · have hv : evalT ps (K + 1) t = x.v := by rw [evalT, if_pos (ho ▸ h1), hxv]
      rw [hv]
      exact evalK_c x h1 _ w
    by_cases h2 : x.op = 2
    · have hv : evalT ps (K + 1) t = colV ps x.dp x.ai := by rw [evalT, if_neg (ho ▸ h1), if_pos (ho ▸ h2), hdp, hai]
      rw [hv]
      exact evalC_c x h2 E m ce ps w he
    by_cases h3 : x.op = 26 ∨ x.op = 27 ∨ x.op = 28
    · have hv : evalT ps (K + 1) t = nullV := by rw [evalT, if_neg (ho ▸ h1), if_neg (ho ▸ h2), if_pos (ho ▸ h3)]
      rw [hv]
      exact evalQ_c x h3 _ w
    have hv : evalT ps (K + 1) t = applyV x.op x.nm (t.kids.map (evalT ps K)) := by rw [evalT, if_neg (ho ▸ h1), if_neg (ho ▸ h2), if_neg (ho ▸ h3), ho, hnm]
    rw [hv]
    have hsz : ∀ v ∈ t.kids.map (evalT ps K), v.str.size ≤ 1048576 := fun v hv => by
      obtain ⟨u, hu, rfl⟩ := List.mem_map.1 hv
      have := eval_size hM1 ps hps K u (List.all_eq_true.1 hsh.1 u hu)
      omega
    have HI := hide (fun y u W g1 g2 g3 g4 => eval_c N hN M hM1 hM2 E m ce ps hps K d y u W g1 g2 g3 g4)
    have hn := hs.len
    have hnN : x.n ≤ N := by have := hm.1; omega
    have HM := hide hm.2
    have HSH := hide hsh.1
    have HS := hide hs
    have HL := hide hl
    have HK := hide hk
    have HE := hide he
    obtain ⟨us, hus⟩ : ∃ us, t.kids = us := ⟨_, rfl⟩
    rw [hus] at HL HK HM HSH hsz ⊢
    have HN : Hid (us.length = x.n) := by have := HL.out; show _ = _; omega
    obtain ⟨L, hLL⟩ : ∃ L, us.map (evalT ps K) = L := ⟨_, rfl⟩
    rw [hLL] at hsz ⊢
    have HLn : Hid (L.length = x.n) := by show _ = _; rw [← hLL, List.length_map]; exact HN.out
    have HLL := hide hLL
    have QA := hide (fun A W h => apply_c x.op x.nm A x.n x.n L W h hsz)
    obtain ⟨RR, hRR⟩ : ∃ RR, applyV x.op x.nm L = RR := ⟨_, rfl⟩
    rw [hRR] at QA ⊢
    have e1 : (x.op == 1) = false := by rw [beq_eq_false_iff_ne]; exact h1
    have e2 : (x.op == 2) = false := by rw [beq_eq_false_iff_ne]; exact h2
    have e3 : (x.op == 26) = false := by rw [beq_eq_false_iff_ne]; omega
    have e4 : (x.op == 27) = false := by rw [beq_eq_false_iff_ne]; omega
    have e5 : (x.op == 28) = false := by rw [beq_eq_false_iff_ne]; omega
    clear hRR hLL hus hs hl hk hn hm hsh he hv h1 h2 h3 ho hxv hdp hai hnm hsz hps
    obtain ⟨op, v, dp, ai, nm, A, n, c, sA, sn, sc, ty⟩ := x
    simp only at e1 e2 e3 e4 e5 HS HN HLn QA hnN
    obtain ⟨t1, t2, t3⟩ := trm_two w #[.int .i64 op, .int .i64 v.kind, .int .i64 v.num, .string v.str, .int .i64 dp, .int .i64 ai, .string nm, .slice A n c, .slice sA sn sc, .int .i64 ty]
    have H1 := hide t1
    have HX := hide t2
    have HB := hide t3
    clear t1 t2 t3
    unfold ndAgg ndObj
    simp only
    obtain ⟨i0, hi0, hz0, hz1, hz2⟩ := info_parts val_info3
    have hn6 : n ≤ 1048576 := by omega
    go_enter Try.func14, Try.ntmps14
    go_upto_region 1 with (fail)
    generalize (w.alloc (.cells #[.int .i64 op, .int .i64 v.kind, .int .i64 v.num, .string v.str, .int .i64 dp, .int .i64 ai, .string nm, .slice A n c, .slice sA sn sc, .int .i64 ty] 32)).alloc (.cells #[.int .i64 0, .int .i64 0, .string { data := #[] }] 26) = w1 at *
    have hw1 := HB.out.size
    have HE1 := hide (HE.out.kept HB.out)
    have l0 := Lib.cell_of_heap H1.out 0
    have l7 := Lib.cell_of_heap H1.out 7
    go_upto_region 13 with (at_make; refine wpList_make_full _ rfl (.tmp 59) (.tmp 59) 22 rfl w1.heap.size 26 i0 _ 3 Try.underlying22 hi0 hz0 hz1 .i64 .i64 _ _ n rfl rfl rfl rfl (by rw [hz2]; omega) (by unfold maxLen; omega) (Nat.le_refl _) ?_; intro w2 hown hg)
    have HKS0 := hide (ks_of_own (l := List.replicate n nullV) hown (by rw [← made_vs]; rfl) (List.length_replicate ..))
    have hb2 : Below w1.heap.size w1 w2 := (Below.refl _ _).grown hg (Nat.le_refl _) (fun k hk => by cases hk)
    have HG : Hid (w.heap.size + 1 < w1.heap.size) := HX.out.lt
    replace H1 := hide (H1.out.kept hb2)
    replace HX := hide (HX.out.kept hb2)
    replace HB := hide (Bel.then HB.out hb2)
    clear l0 l7 hown hg hb2 hw1 HE1
    generalize w1.heap.size = g at *
    have l7 := Lib.cell_of_heap H1.out 7
    go_wp2_with fail
    go_loopw [6, 7, 64] (fun _ _ i wr => ∃ k : Nat, k ≤ n ∧ i = .int .i64 k ∧ Hid (Below w.heap.size w wr) ∧ Hid (VB wr (w.heap.size + 1) nullV) ∧ Hid (Hp wr w.heap.size #[.int .i64 op, .int .i64 v.kind, .int .i64 v.num, .string v.str, .int .i64 dp, .int .i64 ai, .string nm, .slice A n c, .slice sA sn sc, .int .i64 ty] 32) ∧ Hid (KsAt wr g (L.take k ++ List.replicate (n - k) nullV))) (fun _ _ i _ => n - (intOf i).toNat)
    case atStart => exact ⟨0, Nat.zero_le _, rfl, HB, HX, H1, HKS0⟩
    case round =>
      clear HB HX H1 HKS0 l7
      obtain ⟨k, hk, rfl, HB, HX, H1, HKS⟩ := hrel
      by_cases hlt : k < n
      · have hlti : (k : Int) < n := by omega
        have hwk : IntKind.i64.wrap ((k : Int) + 1) = (k : Int) + 1 := IntWalk.i64_in _ (by omega)
        obtain ⟨b, off, y, u, rfl, hb, hu, hty, c0, c1, c2, c3, c4, c5, c6, c7, c8, c9⟩ := kid_at (HS.out.kept HB.out) HL.out (fun i y u g1 g2 => (HK.out i y u g1 g2).kept HB.out) hlt
        have HY := hide hty
        have Q := hide (fun W h1 h2 => HI.out y u W (List.all_eq_true.1 HM.out u (List.mem_of_getElem? hu)) (List.all_eq_true.1 HSH.out u (List.mem_of_getElem? hu)) h1 h2)
        have hLk : L[k]? = some (evalT ps K u) := by rw [← HLL.out, List.getElem?_map, hu]; rfl
        obtain ⟨r, hr⟩ : ∃ r, evalT ps K u = r := ⟨_, rfl⟩
        rw [hr] at Q hLk
        have HLK := hide hLk
        clear hty hu hb hr hLk
        unfold GivesV valAgg ndAgg ndObj at Q
        obtain ⟨yop, yv, ydp, yai, ynm, yA, yn, yc, ysA, ysn, ysc, yty⟩ := y
        simp only at Q c0 c1 c2 c3 c4 c5 c6 c7 c8 c9
        obtain ⟨o, ho⟩ : ∃ o : Obj, o = .cells #[.int .i64 yop, .int .i64 yv.kind, .int .i64 yv.num, .string yv.str, .int .i64 ydp, .int .i64 yai, .string ynm, .slice yA yn yc, .slice ysA ysn ysc, .int .i64 yty] 32 := ⟨_, rfl⟩
        have HYB := hide (show Hp (wr.alloc o) wr.heap.size #[.int .i64 yop, .int .i64 yv.kind, .int .i64 yv.num, .string yv.str, .int .i64 ydp, .int .i64 yai, .string ynm, .slice yA yn yc, .slice ysA ysn ysc, .int .i64 yty] 32 by rw [ho]; exact hp_new wr _ _)
        replace HY := hide (HY.out.kept (Bel.one wr o))
        replace H1 := hide (H1.out.kept (Bel.one wr o))
        replace HX := hide (HX.out.kept (Bel.one wr o))
        replace HKS := hide (HKS.out.kept (Bel.one wr o))
        replace HB := hide (HB.out.alloc HB.out.size o)
        go_upto_region 16 with (fail)
        rw [← ho]
        clear ho c0 c1 c2 c3 c4 c5 c6 c7 c8 c9
        generalize wr.alloc o = w3 at *
        generalize wr.heap.size = gy at *
        have d0 := Lib.cell_of_heap HYB.out 0
        have d1 := Lib.cell_of_heap HYB.out 1
        have d2 := Lib.cell_of_heap HYB.out 2
        have d3 := Lib.cell_of_heap HYB.out 3
        have d4 := Lib.cell_of_heap HYB.out 4
        have d5 := Lib.cell_of_heap HYB.out 5
        have d6 := Lib.cell_of_heap HYB.out 6
        have d7 := Lib.cell_of_heap HYB.out 7
        have d8 := Lib.cell_of_heap HYB.out 8
        have d9 := Lib.cell_of_heap HYB.out 9
        go_wp2_with fail
        refine (Q.out _ HY.out (HE.out.kept HB.out)).mono ?_
        rintro e w4 ⟨rfl, hb⟩
        replace H1 := hide (H1.out.kept hb)
        replace HX := hide (HX.out.kept hb)
        replace HKS := hide (HKS.out.kept hb)
        replace HB := hide (Bel.then HB.out hb)
        have hkl : k < (L.take k ++ List.replicate (n - k) nullV).length := by rw [part_len hk HLn.out]; exact hlt
        obtain ⟨⟨z0, z1, z2, q0, q1, q2⟩, q3, q4, q5⟩ := HKS.out.cells hkl
        have HK2 := hide (HKS.out.set hkl r)
        have hgn := HG.out
        have HX2 : Hid (VB (setV3 w4 g (k * 3) r) (w.heap.size + 1) nullV) := (setV3_block w4 g (k * 3) r (show g ≠ w.heap.size + 1 by omega)).trans HX.out
        have H12 : Hid (Hp (setV3 w4 g (k * 3) r) w.heap.size #[.int .i64 op, .int .i64 v.kind, .int .i64 v.num, .string v.str, .int .i64 dp, .int .i64 ai, .string nm, .slice (some ⟨b, off, none⟩) n c, .slice sA sn sc, .int .i64 ty] 32) := (setV3_block w4 g (k * 3) r (show g ≠ w.heap.size by omega)).trans H1.out
        have HB2 := hide (below_setV3 HB.out (show w.heap.size ≤ g by omega) (k * 3) r)
        rw [part_step HLK.out HLn.out] at HK2
        clear hb d0 d1 d2 d3 d4 d5 d6 d7 d8 d9 HYB HKS HX H1 HB hkl hgn Q HY HLK
        go_wp2_with fail
        go_roundw
        case rel => exact ⟨k + 1, by omega, by go_num, HB2, HX2, H12, HK2⟩
        case measure => simp [intOf]; omega
      · have hlti : ¬ (k : Int) < n := by omega
        have hkn : L.take k ++ List.replicate (n - k) nullV = L := by
          rw [show k = n by omega, Nat.sub_self, List.take_of_length_le (by rw [HLn.out]; exact Nat.le_refl _)]
          simp
        rw [hkn] at HKS
        have HRW := hide (HKS.out.row HLn.out (by unfold maxLen; omega))
        have l0 := Lib.cell_of_heap H1.out 0
        have l6 := Lib.cell_of_heap H1.out 6
        clear hkn HKS
        go_wp2_with fail
        refine (QA.out _ _ HRW.out).mono ?_
        rintro e w4 ⟨rfl, hb⟩
        replace HX := hide (HX.out.kept hb)
        replace HB := hide (Bel.then HB.out hb)
        clear hb l0 l6 H1
        unfold valAgg
        obtain ⟨⟨c0, c1, c2⟩, ⟨y0, y1, y2⟩⟩ := HX.out.all
        have HS := hide (HX.out.set3 (RR))
        have HBS := hide (below_setV HB.out (show w.heap.size ≤ w.heap.size + 1 by omega) (RR))
        clear HX HB
        go_wp2_with fail
        exact end_v Try.results14 rfl rfl HS.out ⟨rfl, HBS.out⟩
end Go.Proofs.Ytlkeghfdpbfhbaa
namespace Go.Proofs.Ytlkeghfdpbfhbaa
set_option linter.unusedVariables false
open Go.ChangeShapes Go.WideShapes Go.ChangeAt Go.RowKit

/-- The loop's state: the term's box, the result's, the row that grows. -/
structure RvS (w : World) (cs : Array Value) (base : Nat) (l : List ValV) (u : Value) (wr : World) : Prop where
  t : Hp wr w.heap.size cs 32
  r : VB wr (w.heap.size + 1) nullV
  o : wr.ownsRow base 26 3 u l.length (l.map valCells).flatten
  hb : Below w.heap.size w wr
  b1 : w.heap.size + 2 ≤ base
  b2 : base ≤ wr.heap.size
theorem RvS.kept {w : World} {cs : Array Value} {base : Nat} {l : List ValV} {u : Value} {wr w' : World} (h : RvS w cs base l u wr) (hb : Below wr.heap.size wr w') : RvS w cs base l u w' :=
  ⟨h.t.kept hb, h.r.kept hb, own_below h.o hb, Bel.then h.hb hb, h.b1, Nat.le_trans h.b2 hb.size⟩
theorem RvS.app {w : World} {cs : Array Value} {base : Nat} {l news : List ValV} {u v : Value} {wr w' : World} (h : RvS w cs base l u wr) (ho : w'.ownsRow base 26 3 v (l.length + news.length) ((l.map valCells).flatten ++ (news.map valCells).flatten)) (hg : wr.grownBy w' u.ownBlock) : RvS w cs base (l ++ news) v w' := by
  have h1 := h.b1
  have h2 := h.b2
  have hlt : ∀ k, u.ownBlock = some k → base ≤ k := fun k hk => (h.o.lt k hk).1
  have hbl : ∀ g, g < wr.heap.size → g < base → w'.heap[g]? = wr.heap[g]? := fun g h1 h2 => hg.block g h1 (fun e => by have := hlt g (by first | exact e | exact e.symm); omega)
  have hB : Below w.heap.size w w' := h.hb.grown hg h.hb.size (fun k hk => by have := hlt k hk; omega)
  have hsz : wr.heap.size ≤ w'.heap.size := hg.size
  exact ⟨(hbl _ h.t.lt (by omega)).trans h.t, (hbl _ h.r.lt (by omega)).trans h.r, by simpa using ho, hB, h1, Nat.le_trans h2 hsz⟩
set_option maxRecDepth 100000 in
set_option maxHeartbeats 8000000 in
theorem reval_c (N : Nat) (hN : N ≤ 1048576) (M : Nat) (hM1 : 2000 ≤ M) (hM2 : M ≤ 1048576) (E : Option Addr) (m ce : Nat) (ps : List ER) (hps : ∀ p ∈ ps, ∀ v ∈ p.2.2.2, v.str.size ≤ M) : ∀ (K d : Nat) (x : Nd) (t : Trm) (w : World), smallT N K t = true → shortT K t = true → TAt w w.heap.size d x t → EnvAt w w.heap.size E m ce ps → Calls Try.prog 15 #[ndAgg x, .slice E m ce] w (GivesV w (evalT ps K t))
  | K, 0, x, t, w, _, _, h, _ => h.elim
  | 0, d + 1, x, t, w, hm, _, _, _ => by rw [smallT] at hm; cases hm
  | K + 1, d + 1, x, t, w, hm, hsh, h, he => by
    obtain ⟨⟨ho, hxv, hdp, hai, hnm⟩, l, hs, hl, hk⟩ := h
    rw [smallT, Bool.and_eq_true, decide_eq_true_eq] at hm
    rw [shortT, Bool.and_eq_true, decide_eq_true_eq] at hsh
    by_cases h1 : x.op = 1
    · have hv : evalT ps (K + 1) t = x.v := by rw [evalT, if_pos (ho ▸ h1), hxv]
      rw [hv]
      exact revalK_c x h1 _ w
    by_cases h2 : x.op = 2
    · have hv : evalT ps (K + 1) t = colV ps x.dp x.ai := by rw [evalT, if_neg (ho ▸ h1), if_pos (ho ▸ h2), hdp, hai]
      rw [hv]
      exact revalC_c x h2 E m ce ps w he
    by_cases h3 : x.op = 26 ∨ x.op = 27 ∨ x.op = 28
    · have hv : evalT ps (K + 1) t = nullV := by rw [evalT, if_neg (ho ▸ h1), if_neg (ho ▸ h2), if_pos (ho ▸ h3)]
      rw [hv]
      exact revalQ_c x h3 _ w
    have hv : evalT ps (K + 1) t = applyV x.op x.nm (t.kids.map (evalT ps K)) := by rw [evalT, if_neg (ho ▸ h1), if_neg (ho ▸ h2), if_neg (ho ▸ h3), ho, hnm]
    rw [hv]
    have hsz : ∀ v ∈ t.kids.map (evalT ps K), v.str.size ≤ 1048576 := fun v hv => by
      obtain ⟨u, hu, rfl⟩ := List.mem_map.1 hv
      have := eval_size hM1 ps hps K u (List.all_eq_true.1 hsh.1 u hu)
      omega
    have HI := hide (fun y u W g1 g2 g3 g4 => reval_c N hN M hM1 hM2 E m ce ps hps K d y u W g1 g2 g3 g4)
    have hn := hs.len
    have hnN : x.n ≤ N := by have := hm.1; omega
    have HM := hide hm.2
    have HSH := hide hsh.1
    have HS := hide hs
    have HL := hide hl
    have HK := hide hk
    have HE := hide he
    obtain ⟨us, hus⟩ : ∃ us, t.kids = us := ⟨_, rfl⟩
    rw [hus] at HL HK HM HSH hsz ⊢
    have HN : Hid (us.length = x.n) := by have := HL.out; show _ = _; omega
    obtain ⟨L, hLL⟩ : ∃ L, us.map (evalT ps K) = L := ⟨_, rfl⟩
    rw [hLL] at hsz ⊢
    have HLn : Hid (L.length = x.n) := by show _ = _; rw [← hLL, List.length_map]; exact HN.out
    have HLL := hide hLL
    have QA := hide (fun A cc W h => rapply_c x.op x.nm A x.n cc L W h hsz)
    obtain ⟨RR, hRR⟩ : ∃ RR, applyV x.op x.nm L = RR := ⟨_, rfl⟩
    rw [hRR] at QA ⊢
    have e1 : (x.op == 1) = false := by rw [beq_eq_false_iff_ne]; exact h1
    have e2 : (x.op == 2) = false := by rw [beq_eq_false_iff_ne]; exact h2
    have e3 : (x.op == 26) = false := by rw [beq_eq_false_iff_ne]; omega
    have e4 : (x.op == 27) = false := by rw [beq_eq_false_iff_ne]; omega
    have e5 : (x.op == 28) = false := by rw [beq_eq_false_iff_ne]; omega
    clear hRR hLL hus hs hl hk hn hm hsh he hv h1 h2 h3 ho hxv hdp hai hnm hsz hps
    obtain ⟨op, v, dp, ai, nm, A, n, c, sA, sn, sc, ty⟩ := x
    simp only at e1 e2 e3 e4 e5 HS HN HLn QA hnN
    obtain ⟨t1, t2, t3⟩ := trm_two w #[.int .i64 op, .int .i64 v.kind, .int .i64 v.num, .string v.str, .int .i64 dp, .int .i64 ai, .string nm, .slice A n c, .slice sA sn sc, .int .i64 ty]
    have H1 := hide t1
    have HX := hide t2
    have HB := hide t3
    clear t1 t2 t3
    unfold ndAgg ndObj
    simp only
    obtain ⟨i0, hi0, hz0, hz1, hz2⟩ := info_parts val_info3
    have hn6 : n ≤ 1048576 := by omega
    go_enter Try.func15, Try.ntmps15
    go_upto_region 1 with (fail)
    generalize (w.alloc (.cells #[.int .i64 op, .int .i64 v.kind, .int .i64 v.num, .string v.str, .int .i64 dp, .int .i64 ai, .string nm, .slice A n c, .slice sA sn sc, .int .i64 ty] 32)).alloc (.cells #[.int .i64 0, .int .i64 0, .string { data := #[] }] 26) = w1 at *
    have HE1 := hide (HE.out.kept HB.out)
    have hst : RvS w #[.int .i64 op, .int .i64 v.kind, .int .i64 v.num, .string v.str, .int .i64 dp, .int .i64 ai, .string nm, .slice A n c, .slice sA sn sc, .int .i64 ty] w1.heap.size [] (.slice (some ⟨w1.heap.size, 0, none⟩) 0 0) (w1.alloc (.cells #[] 26)) :=
      ⟨H1.out.kept (Bel.one _ _), HX.out.kept (Bel.one _ _), World.ownsRow_lit _ _ 0 (Nat.le_refl _) (by simp only [maxLen]; omega) rfl, Bel.then HB.out (Bel.one _ _), HX.out.lt, by rw [World.size_alloc]; omega⟩
    have HR0 := hide hst
    have l0 := Lib.cell_of_heap H1.out 0
    clear hst
    go_upto_region 13 with (fail)
    clear l0 H1 HX HB HE1
    generalize w1.alloc (.cells #[] 26) = w2 at *
    generalize w1.heap.size = base at *
    go_wp2_with fail
    go_loopw [5, 6] (fun u5 i wr => ∃ k : Nat, k ≤ n ∧ i = .int .i64 k ∧ Hid (RvS w #[.int .i64 op, .int .i64 v.kind, .int .i64 v.num, .string v.str, .int .i64 dp, .int .i64 ai, .string nm, .slice A n c, .slice sA sn sc, .int .i64 ty] base (L.take k) u5 wr)) (fun _ i _ => n - (intOf i).toNat)
    case atStart => exact ⟨0, Nat.zero_le _, rfl, HR0⟩
    case round =>
      clear HR0
      obtain ⟨k, hk, rfl, HRV⟩ := hrel
      have l7 := Lib.cell_of_heap HRV.out.t 7
      by_cases hlt : k < n
      · have hlti : (k : Int) < n := by omega
        have hwk : IntKind.i64.wrap ((k : Int) + 1) = (k : Int) + 1 := IntWalk.i64_in _ (by omega)
        have HB := hide HRV.out.hb
        obtain ⟨b, off, y, u, rfl, hb, hu, hty, c0, c1, c2, c3, c4, c5, c6, c7, c8, c9⟩ := kid_at (HS.out.kept HB.out) HL.out (fun i y u g1 g2 => (HK.out i y u g1 g2).kept HB.out) hlt
        have HY := hide hty
        have Q := hide (fun W h1 h2 => HI.out y u W (List.all_eq_true.1 HM.out u (List.mem_of_getElem? hu)) (List.all_eq_true.1 HSH.out u (List.mem_of_getElem? hu)) h1 h2)
        have hLk : L[k]? = some (evalT ps K u) := by rw [← HLL.out, List.getElem?_map, hu]; rfl
        obtain ⟨r, hr⟩ : ∃ r, evalT ps K u = r := ⟨_, rfl⟩
        rw [hr] at Q hLk
        have HLK := hide hLk
        clear hty hu hb hr hLk
        unfold GivesV valAgg ndAgg ndObj at Q
        obtain ⟨yop, yv, ydp, yai, ynm, yA, yn, yc, ysA, ysn, ysc, yty⟩ := y
        simp only at Q c0 c1 c2 c3 c4 c5 c6 c7 c8 c9
        go_upto_region 16 with (fail)
        go_wp2_with fail
        refine (Q.out _ HY.out (HE.out.kept HB.out)).mono ?_
        rintro e w4 ⟨rfl, hb⟩
        replace HRV := hide (HRV.out.kept hb)
        clear hb c0 c1 c2 c3 c4 c5 c6 c7 c8 c9 l7 HB Q HY
        have hlk : (L.take k).length = k := by rw [List.length_take, HLn.out]; omega
        have HLK2 := hide hlk
        clear hlk
        obtain ⟨o, ho⟩ : ∃ o : Obj, o = .cells #[.int .i64 r.kind, .int .i64 r.num, .string r.str] 26 := ⟨_, rfl⟩
        have HLT := hide (show Cells (w4.alloc o) (w4.heap.size + 1) (some ⟨w4.heap.size, 0, none⟩) (valCells r) by rw [ho]; exact cells_lit w4 _ _)
        replace HRV := hide (HRV.out.kept (Bel.one w4 o))
        go_wp2_with (at_builtin; rw [← ho]; refine wpList_app rfl (.tmp 64) (.tmp 72) 22 rfl base 26 i0 _ 3 32 Try.underlying22 hi0 hz0 hz1 hz2 rfl (by omega) _ (L.take k).length _ rfl HRV.out.o _ _ 1 1 (valCells r) rfl rfl HLT.out (by simp [valCells, Value.oneCell']) (by rw [HLK2.out]; simp only [maxLen]; omega) (by rw [HLK2.out]; omega) HRV.out.b2 (by simp) ?_; intro v5 w5 hown5 hg5 _)
        have HRV5 := hide (HRV.out.app (news := [r]) (by simpa using hown5) hg5)
        rw [← take_at HLK.out] at HRV5
        clear hown5 hg5 HRV HLT HLK HLK2 ho
        go_roundw
        case rel => exact ⟨k + 1, by omega, by go_num, HRV5⟩
        case measure => simp [intOf]; omega
      · have hlti : ¬ (k : Int) < n := by omega
        have hkn : L.take k = L := List.take_of_length_le (by rw [HLn.out]; omega)
        rw [hkn] at HRV
        have HX := hide HRV.out.r
        have HB := hide HRV.out.hb
        have l0 := Lib.cell_of_heap HRV.out.t 0
        have l6 := Lib.cell_of_heap HRV.out.t 6
        obtain ⟨A5, c5, rfl, hrow⟩ := sl_of_own HRV.out.o (fun _ => rfl)
        have hrow2 : RowV wr wr.heap.size A5 n c5 L := by have := hrow; rw [HLn.out] at this; exact this
        have HRW := hide hrow2
        have hLn : L.length = n := HLn.out
        clear hkn HRV hrow hrow2
        rw [hLn]
        clear hLn
        go_wp2_with fail
        refine (QA.out _ _ _ HRW.out).mono ?_
        rintro e w4 ⟨rfl, hb⟩
        replace HX := hide (HX.out.kept hb)
        replace HB := hide (Bel.then HB.out hb)
        clear hb l0 l6 l7
        unfold valAgg
        obtain ⟨⟨c0, c1, c2⟩, ⟨y0, y1, y2⟩⟩ := HX.out.all
        have HS := hide (HX.out.set3 (RR))
        have HBS := hide (below_setV HB.out (show w.heap.size ≤ w.heap.size + 1 by omega) (RR))
        clear HX HB
        go_wp2_with fail
        exact end_v Try.results15 rfl rfl HS.out ⟨rfl, HBS.out⟩
end Go.Proofs.Ytlkeghfdpbfhbaa
namespace Go.Proofs.Ytlkeghfdpbfhbaa
set_option linter.unusedVariables false
open Go.ChangeShapes Go.WideShapes Go.ChangeAt Go.RowKit

set_option maxRecDepth 100000 in
set_option maxHeartbeats 4000000 in
theorem truth_c (N : Nat) (hN : N ≤ 1048576) (M : Nat) (hM1 : 2000 ≤ M) (hM2 : M ≤ 1048576) (E : Option Addr) (m ce : Nat) (ps : List ER) (hps : ∀ p ∈ ps, ∀ v ∈ p.2.2.2, v.str.size ≤ M) (K d : Nat) (x : Nd) (t : Trm) (w : World) (hm : smallT N K t = true) (hsh : shortT K t = true) (h : TAt w w.heap.size d x t) (he : EnvAt w w.heap.size E m ce ps) : Calls Try.prog 16 #[ndAgg x, .slice E m ce] w fun e w' => e = .returned (.int .i64 (frV (evalT ps K t))) ∧ Below w.heap.size w w' := by
  have HB := hide (Bel.one w (.cells (ndObj x) 32))
  have H1 := hide (hp_new w (ndObj x) 32)
  have HT := hide (h.kept HB.out)
  have HE := hide (he.kept HB.out)
  have Q := hide (fun W h1 h2 => eval_c N hN M hM1 hM2 E m ce ps hps K d x t W hm hsh h1 h2)
  generalize evalT ps K t = r at *
  have QF := hide (fun W => fromv_c r W)
  clear h he hm hsh hps hN hM1 hM2
  obtain ⟨op, v, dp, ai, nm, A, n, c, sA, sn, sc, ty⟩ := x
  unfold GivesV ndAgg ndObj at Q
  unfold valAgg at QF Q
  unfold ndObj at H1 HB HT HE
  unfold ndAgg ndObj
  simp only at Q H1 HB HT HE ⊢
  go_enter Try.func16, Try.ntmps16
  go_upto_region 1 with (fail)
  generalize w.alloc (.cells #[.int .i64 op, .int .i64 v.kind, .int .i64 v.num, .string v.str, .int .i64 dp, .int .i64 ai, .string nm, .slice A n c, .slice sA sn sc, .int .i64 ty] 32) = w1 at *
  have l0 := Lib.cell_of_heap H1.out 0
  have l1 := Lib.cell_of_heap H1.out 1
  have l2 := Lib.cell_of_heap H1.out 2
  have l3 := Lib.cell_of_heap H1.out 3
  have l4 := Lib.cell_of_heap H1.out 4
  have l5 := Lib.cell_of_heap H1.out 5
  have l6 := Lib.cell_of_heap H1.out 6
  have l7 := Lib.cell_of_heap H1.out 7
  have l8 := Lib.cell_of_heap H1.out 8
  have l9 := Lib.cell_of_heap H1.out 9
  go_wp2_with fail
  refine (Q.out _ HT.out HE.out).mono ?_
  rintro e w2 ⟨rfl, hb⟩
  replace HB := hide (Bel.then HB.out hb)
  clear hb l0 l1 l2 l3 l4 l5 l6 l7 l8 l9
  go_wp2_with fail
  refine (QF.out _).mono ?_
  rintro e w3 ⟨rfl, hb⟩
  replace HB := hide (Bel.then HB.out hb)
  clear hb
  go_wp2_with fail
  go_ret
  exact ⟨rfl, HB.out⟩
set_option maxRecDepth 100000 in
set_option maxHeartbeats 4000000 in
theorem rtruth_c (N : Nat) (hN : N ≤ 1048576) (M : Nat) (hM1 : 2000 ≤ M) (hM2 : M ≤ 1048576) (E : Option Addr) (m ce : Nat) (ps : List ER) (hps : ∀ p ∈ ps, ∀ v ∈ p.2.2.2, v.str.size ≤ M) (K d : Nat) (x : Nd) (t : Trm) (w : World) (hm : smallT N K t = true) (hsh : shortT K t = true) (h : TAt w w.heap.size d x t) (he : EnvAt w w.heap.size E m ce ps) : Calls Try.prog 17 #[ndAgg x, .slice E m ce] w fun e w' => e = .returned (.int .i64 (frV (evalT ps K t))) ∧ Below w.heap.size w w' := by
  have HB := hide (Bel.one w (.cells (ndObj x) 32))
  have H1 := hide (hp_new w (ndObj x) 32)
  have HT := hide (h.kept HB.out)
  have HE := hide (he.kept HB.out)
  have Q := hide (fun W h1 h2 => reval_c N hN M hM1 hM2 E m ce ps hps K d x t W hm hsh h1 h2)
  generalize evalT ps K t = r at *
  have QF := hide (fun W => rfromv_c r W)
  clear h he hm hsh hps hN hM1 hM2
  obtain ⟨op, v, dp, ai, nm, A, n, c, sA, sn, sc, ty⟩ := x
  unfold GivesV ndAgg ndObj at Q
  unfold valAgg at QF Q
  unfold ndObj at H1 HB HT HE
  unfold ndAgg ndObj
  simp only at Q H1 HB HT HE ⊢
  go_enter Try.func17, Try.ntmps17
  go_upto_region 1 with (fail)
  generalize w.alloc (.cells #[.int .i64 op, .int .i64 v.kind, .int .i64 v.num, .string v.str, .int .i64 dp, .int .i64 ai, .string nm, .slice A n c, .slice sA sn sc, .int .i64 ty] 32) = w1 at *
  have l0 := Lib.cell_of_heap H1.out 0
  have l1 := Lib.cell_of_heap H1.out 1
  have l2 := Lib.cell_of_heap H1.out 2
  have l3 := Lib.cell_of_heap H1.out 3
  have l4 := Lib.cell_of_heap H1.out 4
  have l5 := Lib.cell_of_heap H1.out 5
  have l6 := Lib.cell_of_heap H1.out 6
  have l7 := Lib.cell_of_heap H1.out 7
  have l8 := Lib.cell_of_heap H1.out 8
  have l9 := Lib.cell_of_heap H1.out 9
  go_wp2_with fail
  refine (Q.out _ HT.out HE.out).mono ?_
  rintro e w2 ⟨rfl, hb⟩
  replace HB := hide (Bel.then HB.out hb)
  clear hb l0 l1 l2 l3 l4 l5 l6 l7 l8 l9
  go_wp2_with fail
  refine (QF.out _).mono ?_
  rintro e w3 ⟨rfl, hb⟩
  replace HB := hide (Bel.then HB.out hb)
  clear hb
  go_wp2_with fail
  go_ret
  exact ⟨rfl, HB.out⟩
def envShort (ps : List ER) : Bool := ps.all fun p => shortP p.2.2.2
set_option maxRecDepth 100000 in
set_option maxHeartbeats 8000000 in
theorem evals_c (E : Option Addr) (m ce : Nat) (ps : List ER) (d : Nat) (x : Nd) (t : Trm) (w : World) (h : TAt w w.heap.size d x t) (he : EnvAt w w.heap.size E m ce ps) : Calls Try.prog 4 #[ndAgg x, .slice E m ce] w fun e w' => e = .returned (.bool true) ∧ Below w.heap.size w w' := by
  have HB := hide (Bel.one w (.cells (ndObj x) 32))
  have H1 := hide (hp_new w (ndObj x) 32)
  have HT := hide h
  have HE := hide he
  have QS := hide (fun W h => small_c 8 8 d x t W rfl (by omega) h)
  have QH := hide (fun hm W h => shortT_c 8 d x t W hm h)
  have QE := hide (fun hps hm hsh W h1 h2 => eval_c 10 (by omega) 2000 (Nat.le_refl _) (by omega) E m ce ps hps 8 d x t W hm hsh h1 h2)
  have QR := hide (fun hps hm hsh W h1 h2 => reval_c 10 (by omega) 2000 (Nat.le_refl _) (by omega) E m ce ps hps 8 d x t W hm hsh h1 h2)
  have QT := hide (fun hps hm hsh W h1 h2 => truth_c 10 (by omega) 2000 (Nat.le_refl _) (by omega) E m ce ps hps 8 d x t W hm hsh h1 h2)
  have QU := hide (fun hps hm hsh W h1 h2 => rtruth_c 10 (by omega) 2000 (Nat.le_refl _) (by omega) E m ce ps hps 8 d x t W hm hsh h1 h2)
  generalize evalT ps 8 t = r at *
  have E1 := hide (valEq_same r.kind r.num r.str)
  clear h he
  obtain ⟨op, v, dp, ai, nm, A, n, c, sA, sn, sc, ty⟩ := x
  unfold ndAgg ndObj at QS QH
  unfold GivesV valAgg ndAgg ndObj at QE QR
  unfold ndAgg ndObj at QT QU
  unfold ndObj at H1 HB
  unfold ndAgg ndObj
  simp only at QS QH QE QR QT QU H1 HB ⊢
  cases hsm : smallT 10 8 t with
  | false =>
    rw [hsm] at QS
    go_enter Try.func4, Try.ntmps4
    go_upto_region 1 with (fail)
    generalize w.alloc (.cells #[.int .i64 op, .int .i64 v.kind, .int .i64 v.num, .string v.str, .int .i64 dp, .int .i64 ai, .string nm, .slice A n c, .slice sA sn sc, .int .i64 ty] 32) = w1 at *
    have l0 := Lib.cell_of_heap H1.out 0
    have l1 := Lib.cell_of_heap H1.out 1
    have l2 := Lib.cell_of_heap H1.out 2
    have l3 := Lib.cell_of_heap H1.out 3
    have l4 := Lib.cell_of_heap H1.out 4
    have l5 := Lib.cell_of_heap H1.out 5
    have l6 := Lib.cell_of_heap H1.out 6
    have l7 := Lib.cell_of_heap H1.out 7
    have l8 := Lib.cell_of_heap H1.out 8
    have l9 := Lib.cell_of_heap H1.out 9
    go_wp2_with fail
    refine (QS.out _ (HT.out.kept HB.out)).mono ?_
    rintro e w2 ⟨rfl, hb⟩
    replace HB := hide (Bel.then HB.out hb)
    clear hb l0 l1 l2 l3 l4 l5 l6 l7 l8 l9
    go_wp2_with fail
    refine (awake_c _).mono ?_
    rintro e w4 ⟨rfl, hb⟩
    replace HB := hide (Bel.then HB.out hb)
    clear hb
    go_wp2_with fail
    go_ret
    exact ⟨rfl, HB.out⟩
  | true =>
    rw [hsm] at QS
    have QH2 := hide (QH.out hsm)
    cases hss : shortT 8 t with
    | false =>
      rw [hss] at QH2
      clear QH QE QR QT QU
      go_enter Try.func4, Try.ntmps4
      go_upto_region 1 with (fail)
      generalize w.alloc (.cells #[.int .i64 op, .int .i64 v.kind, .int .i64 v.num, .string v.str, .int .i64 dp, .int .i64 ai, .string nm, .slice A n c, .slice sA sn sc, .int .i64 ty] 32) = w1 at *
      have l0 := Lib.cell_of_heap H1.out 0
      have l1 := Lib.cell_of_heap H1.out 1
      have l2 := Lib.cell_of_heap H1.out 2
      have l3 := Lib.cell_of_heap H1.out 3
      have l4 := Lib.cell_of_heap H1.out 4
      have l5 := Lib.cell_of_heap H1.out 5
      have l6 := Lib.cell_of_heap H1.out 6
      have l7 := Lib.cell_of_heap H1.out 7
      have l8 := Lib.cell_of_heap H1.out 8
      have l9 := Lib.cell_of_heap H1.out 9
      go_wp2_with fail
      refine (QS.out _ (HT.out.kept HB.out)).mono ?_
      rintro e w2 ⟨rfl, hb⟩
      replace HB := hide (Bel.then HB.out hb)
      replace H1 := hide (H1.out.kept hb)
      clear hb l0 l1 l2 l3 l4 l5 l6 l7 l8 l9
      have l0 := Lib.cell_of_heap H1.out 0
      have l1 := Lib.cell_of_heap H1.out 1
      have l2 := Lib.cell_of_heap H1.out 2
      have l3 := Lib.cell_of_heap H1.out 3
      have l4 := Lib.cell_of_heap H1.out 4
      have l5 := Lib.cell_of_heap H1.out 5
      have l6 := Lib.cell_of_heap H1.out 6
      have l7 := Lib.cell_of_heap H1.out 7
      have l8 := Lib.cell_of_heap H1.out 8
      have l9 := Lib.cell_of_heap H1.out 9
      go_wp2_with fail
      refine (QH2.out _ (HT.out.kept HB.out)).mono ?_
      rintro e w3 ⟨rfl, hb⟩
      replace HB := hide (Bel.then HB.out hb)
      clear hb l0 l1 l2 l3 l4 l5 l6 l7 l8 l9
      go_wp2_with fail
      refine (awake_c _).mono ?_
      rintro e w4 ⟨rfl, hb⟩
      replace HB := hide (Bel.then HB.out hb)
      clear hb
      go_wp2_with fail
      go_ret
      exact ⟨rfl, HB.out⟩
    | true =>
      rw [hss] at QH2
      have QE2 := hide (fun hps => QE.out hps hsm hss)
      have QR2 := hide (fun hps => QR.out hps hsm hss)
      have QT2 := hide (fun hps => QT.out hps hsm hss)
      have QU2 := hide (fun hps => QU.out hps hsm hss)
      clear QH QE QR QT QU hsm hss
      have hmx := Nat.le_trans HE.out.1.cap HE.out.1.max
      unfold maxLen at hmx
      have HEL := hide HE.out.1.len
      go_enter Try.func4, Try.ntmps4
      go_upto_region 1 with (fail)
      generalize w.alloc (.cells #[.int .i64 op, .int .i64 v.kind, .int .i64 v.num, .string v.str, .int .i64 dp, .int .i64 ai, .string nm, .slice A n c, .slice sA sn sc, .int .i64 ty] 32) = w1 at *
      have l0 := Lib.cell_of_heap H1.out 0
      have l1 := Lib.cell_of_heap H1.out 1
      have l2 := Lib.cell_of_heap H1.out 2
      have l3 := Lib.cell_of_heap H1.out 3
      have l4 := Lib.cell_of_heap H1.out 4
      have l5 := Lib.cell_of_heap H1.out 5
      have l6 := Lib.cell_of_heap H1.out 6
      have l7 := Lib.cell_of_heap H1.out 7
      have l8 := Lib.cell_of_heap H1.out 8
      have l9 := Lib.cell_of_heap H1.out 9
      go_wp2_with fail
      refine (QS.out _ (HT.out.kept HB.out)).mono ?_
      rintro e w2 ⟨rfl, hb⟩
      replace HB := hide (Bel.then HB.out hb)
      replace H1 := hide (H1.out.kept hb)
      clear hb l0 l1 l2 l3 l4 l5 l6 l7 l8 l9
      have l0 := Lib.cell_of_heap H1.out 0
      have l1 := Lib.cell_of_heap H1.out 1
      have l2 := Lib.cell_of_heap H1.out 2
      have l3 := Lib.cell_of_heap H1.out 3
      have l4 := Lib.cell_of_heap H1.out 4
      have l5 := Lib.cell_of_heap H1.out 5
      have l6 := Lib.cell_of_heap H1.out 6
      have l7 := Lib.cell_of_heap H1.out 7
      have l8 := Lib.cell_of_heap H1.out 8
      have l9 := Lib.cell_of_heap H1.out 9
      go_wp2_with fail
      refine (QH2.out _ (HT.out.kept HB.out)).mono ?_
      rintro e w3 ⟨rfl, hb⟩
      replace HB := hide (Bel.then HB.out hb)
      replace H1 := hide (H1.out.kept hb)
      clear hb l0 l1 l2 l3 l4 l5 l6 l7 l8 l9
      go_wp2_with fail
      go_loopw [5] (fun i wr => ∃ k : Nat, k ≤ m ∧ i = .int .i64 k ∧ Hid (Below w.heap.size w wr) ∧ Hid (Hp wr w.heap.size #[.int .i64 op, .int .i64 v.kind, .int .i64 v.num, .string v.str, .int .i64 dp, .int .i64 ai, .string nm, .slice A n c, .slice sA sn sc, .int .i64 ty] 32) ∧ Hid (envShort (ps.take k) = true)) (fun i _ => m - (intOf i).toNat)
      case atStart => exact ⟨0, Nat.zero_le _, rfl, HB, H1, rfl⟩
      case round =>
        clear HB H1
        obtain ⟨k, hk, rfl, HB, H1, HT2⟩ := hrel
        by_cases hlt : k < m
        · have hlti : (k : Int) < m := by omega
          have hwk : IntKind.i64.wrap ((k : Int) + 1) = (k : Int) + 1 := IntWalk.i64_in _ (by omega)
          have HEW := hide (HE.out.kept HB.out)
          obtain ⟨eb, eo, q, rfl, heb, hq, hec⟩ := HEW.out.1.at (by omega) hlt
          have hrow := HEW.out.2 q (List.mem_of_getElem? hq)
          have he0 := hec 0 _ rfl
          rw [Nat.mul_one, Nat.add_zero] at he0
          obtain ⟨QA, qn, qc, ql⟩ := q
          simp only at hrow he0
          have HQ := hide hq
          have HRW := hide hrow
          have QSH := hide (fun W h => short_c QA qn qc ql W h)
          clear hec hq hrow
          cases hsp : shortP ql with
          | false =>
            rw [hsp] at QSH
            go_wp2_with fail
            refine (QSH.out _ HRW.out).mono ?_
            rintro e w5 ⟨rfl, rfl⟩
            go_wp2_with fail
            refine (awake_c _).mono ?_
            rintro e w4 ⟨rfl, hb⟩
            replace HB := hide (Bel.then HB.out hb)
            clear hb
            go_wp2_with fail
            go_ret
            exact ⟨rfl, HB.out⟩
          | true =>
            rw [hsp] at QSH
            have HT3 : Hid (envShort (ps.take (k + 1)) = true) := by
              show _ = _
              unfold envShort
              rw [take_at HQ.out, List.all_append, show (ps.take k).all (fun p => shortP p.2.2.2) = true from HT2.out]
              simp [hsp]
            clear hsp
            go_wp2_with fail
            refine (QSH.out _ HRW.out).mono ?_
            rintro e w5 ⟨rfl, rfl⟩
            go_wp2_with fail
            go_roundw
            case rel => exact ⟨k + 1, by omega, by go_num, HB, H1, HT3⟩
            case measure => simp [intOf]; omega
        · have hlti : ¬ (k : Int) < m := by omega
          have hps : ∀ p ∈ ps, ∀ v ∈ p.2.2.2, v.str.size ≤ 2000 := by
            have h1 := HT2.out
            rw [List.take_of_length_le (by rw [HEL.out]; omega)] at h1
            intro p hp v hv
            have h2 := List.all_eq_true.1 h1 p hp
            have h3 := List.all_eq_true.1 h2 v hv
            exact of_decide_eq_true h3
          have QE3 := hide (QE2.out hps)
          have QR3 := hide (QR2.out hps)
          have QT3 := hide (QT2.out hps)
          have QU3 := hide (QU2.out hps)
          clear hps QE2 QR2 QT2 QU2 HT2
          go_upto_region 8 with (fail)
          refine wp_region_held_drew (S := (fun w' => Hp w' w.heap.size #[.int .i64 op, .int .i64 v.kind, .int .i64 v.num, .string v.str, .int .i64 dp, .int .i64 ai, .string nm, .slice A n c, .slice sA sn sc, .int .i64 ty] 32 ∧ Below w.heap.size w w')) (by kernel_rfl) (⟨H1.out.kept (Below.refl _ _).drew, HB.out.drew⟩) (fun hHeld => ?_)
          refine wpAnyH_ready (rs := [0]) (by kernel_rfl) (by simp) ?_
          refine AllReadyH.cons nth0 (fun K hK => ?_) AllReadyH.nil
          go_simp
          (first | (go_at_call 9; refine (awake_c _).mono ?_; rintro e w' ⟨rfl, hb⟩) | (go_at_call 14; refine (QE3.out _ (HT.out.kept hHeld.2) (HE.out.kept hHeld.2)).mono ?_; rintro e w' ⟨rfl, hb⟩) | (go_at_call 15; refine (QR3.out _ (HT.out.kept hHeld.2) (HE.out.kept hHeld.2)).mono ?_; rintro e w' ⟨rfl, hb⟩) | (go_at_call 16; refine (QT3.out _ (HT.out.kept hHeld.2) (HE.out.kept hHeld.2)).mono ?_; rintro e w' ⟨rfl, hb⟩) | (go_at_call 17; refine (QU3.out _ (HT.out.kept hHeld.2) (HE.out.kept hHeld.2)).mono ?_; rintro e w' ⟨rfl, hb⟩))
          refine hK.out _ _ (⟨hHeld.1.kept hb, Bel.then hHeld.2 hb⟩) (fun hHeld => ?_)
          clear hK K
          (try simp only [Act.put]); (try simp only [List.setIfInBounds_toArray]); (try simp only [List.set_cons_succ]); (try simp only [List.set_cons_zero])
          first | (refine wpAnyH_take (i := 1) (v := ?_) nth1 (by kernel_rfl) (by kernel_rfl) (by kernel_rfl) (fun _ _ _ h => h) (Or.inl ⟨by rfl, ?_⟩) hHeld ?_; rotate_left; focus (intro wS hSw; (have l0 := Lib.cell_of_heap hSw.1 0; have l1 := Lib.cell_of_heap hSw.1 1; have l2 := Lib.cell_of_heap hSw.1 2; have l3 := Lib.cell_of_heap hSw.1 3; have l4 := Lib.cell_of_heap hSw.1 4; have l5 := Lib.cell_of_heap hSw.1 5; have l6 := Lib.cell_of_heap hSw.1 6; have l7 := Lib.cell_of_heap hSw.1 7; have l8 := Lib.cell_of_heap hSw.1 8; have l9 := Lib.cell_of_heap hSw.1 9; have q1 := E1.out); go_simp; try with_reducible rfl; done)) | (refine wpAnyH_take (i := 1) (v := undef) nth1 (by kernel_rfl) (by kernel_rfl) (by kernel_rfl) (fun _ _ _ h => h) (Or.inr ⟨by rfl, rfl⟩) hHeld ?_)
          (try simp only [Act.put]); (try simp only [List.setIfInBounds_toArray]); (try simp only [List.set_cons_succ]); (try simp only [List.set_cons_zero])
          first | (refine wpAnyH_take (i := 2) (v := ?_) nth2 (by kernel_rfl) (by kernel_rfl) (by kernel_rfl) (fun _ _ _ h => h) (Or.inl ⟨by rfl, ?_⟩) hHeld ?_; rotate_left; focus (intro wS hSw; (have l0 := Lib.cell_of_heap hSw.1 0; have l1 := Lib.cell_of_heap hSw.1 1; have l2 := Lib.cell_of_heap hSw.1 2; have l3 := Lib.cell_of_heap hSw.1 3; have l4 := Lib.cell_of_heap hSw.1 4; have l5 := Lib.cell_of_heap hSw.1 5; have l6 := Lib.cell_of_heap hSw.1 6; have l7 := Lib.cell_of_heap hSw.1 7; have l8 := Lib.cell_of_heap hSw.1 8; have l9 := Lib.cell_of_heap hSw.1 9; have q1 := E1.out); go_simp; try with_reducible rfl; done)) | (refine wpAnyH_take (i := 2) (v := undef) nth2 (by kernel_rfl) (by kernel_rfl) (by kernel_rfl) (fun _ _ _ h => h) (Or.inr ⟨by rfl, rfl⟩) hHeld ?_)
          (try simp only [Act.put]); (try simp only [List.setIfInBounds_toArray]); (try simp only [List.set_cons_succ]); (try simp only [List.set_cons_zero])
          first | (refine wpAnyH_take (i := 3) (v := ?_) nth3 (by kernel_rfl) (by kernel_rfl) (by kernel_rfl) (fun _ _ _ h => h) (Or.inl ⟨by rfl, ?_⟩) hHeld ?_; rotate_left; focus (intro wS hSw; (have l0 := Lib.cell_of_heap hSw.1 0; have l1 := Lib.cell_of_heap hSw.1 1; have l2 := Lib.cell_of_heap hSw.1 2; have l3 := Lib.cell_of_heap hSw.1 3; have l4 := Lib.cell_of_heap hSw.1 4; have l5 := Lib.cell_of_heap hSw.1 5; have l6 := Lib.cell_of_heap hSw.1 6; have l7 := Lib.cell_of_heap hSw.1 7; have l8 := Lib.cell_of_heap hSw.1 8; have l9 := Lib.cell_of_heap hSw.1 9; have q1 := E1.out); go_simp; try with_reducible rfl; done)) | (refine wpAnyH_take (i := 3) (v := undef) nth3 (by kernel_rfl) (by kernel_rfl) (by kernel_rfl) (fun _ _ _ h => h) (Or.inr ⟨by rfl, rfl⟩) hHeld ?_)
          (try simp only [Act.put]); (try simp only [List.setIfInBounds_toArray]); (try simp only [List.set_cons_succ]); (try simp only [List.set_cons_zero])
          first | (refine wpAnyH_take (i := 5) (v := ?_) nth5 (by kernel_rfl) (by kernel_rfl) (by kernel_rfl) (fun _ _ _ h => h) (Or.inl ⟨by rfl, ?_⟩) hHeld ?_; rotate_left; focus (intro wS hSw; (have l0 := Lib.cell_of_heap hSw.1 0; have l1 := Lib.cell_of_heap hSw.1 1; have l2 := Lib.cell_of_heap hSw.1 2; have l3 := Lib.cell_of_heap hSw.1 3; have l4 := Lib.cell_of_heap hSw.1 4; have l5 := Lib.cell_of_heap hSw.1 5; have l6 := Lib.cell_of_heap hSw.1 6; have l7 := Lib.cell_of_heap hSw.1 7; have l8 := Lib.cell_of_heap hSw.1 8; have l9 := Lib.cell_of_heap hSw.1 9; have q1 := E1.out); go_simp; try with_reducible rfl; done)) | (refine wpAnyH_take (i := 5) (v := undef) nth5 (by kernel_rfl) (by kernel_rfl) (by kernel_rfl) (fun _ _ _ h => h) (Or.inr ⟨by rfl, rfl⟩) hHeld ?_)
          (try simp only [Act.put]); (try simp only [List.setIfInBounds_toArray]); (try simp only [List.set_cons_succ]); (try simp only [List.set_cons_zero])
          first | (refine wpAnyH_take (i := 6) (v := ?_) nth6 (by kernel_rfl) (by kernel_rfl) (by kernel_rfl) (fun _ _ _ h => h) (Or.inl ⟨by rfl, ?_⟩) hHeld ?_; rotate_left; focus (intro wS hSw; (have l0 := Lib.cell_of_heap hSw.1 0; have l1 := Lib.cell_of_heap hSw.1 1; have l2 := Lib.cell_of_heap hSw.1 2; have l3 := Lib.cell_of_heap hSw.1 3; have l4 := Lib.cell_of_heap hSw.1 4; have l5 := Lib.cell_of_heap hSw.1 5; have l6 := Lib.cell_of_heap hSw.1 6; have l7 := Lib.cell_of_heap hSw.1 7; have l8 := Lib.cell_of_heap hSw.1 8; have l9 := Lib.cell_of_heap hSw.1 9; have q1 := E1.out); go_simp; try with_reducible rfl; done)) | (refine wpAnyH_take (i := 6) (v := undef) nth6 (by kernel_rfl) (by kernel_rfl) (by kernel_rfl) (fun _ _ _ h => h) (Or.inr ⟨by rfl, rfl⟩) hHeld ?_)
          (try simp only [Act.put]); (try simp only [List.setIfInBounds_toArray]); (try simp only [List.set_cons_succ]); (try simp only [List.set_cons_zero])
          refine wpAnyH_ready (rs := [4]) (by kernel_rfl) (by simp) ?_
          refine AllReadyH.cons nth4 (fun K hK => ?_) AllReadyH.nil
          go_simp
          (first | (go_at_call 9; refine (awake_c _).mono ?_; rintro e w' ⟨rfl, hb⟩) | (go_at_call 14; refine (QE3.out _ (HT.out.kept hHeld.2) (HE.out.kept hHeld.2)).mono ?_; rintro e w' ⟨rfl, hb⟩) | (go_at_call 15; refine (QR3.out _ (HT.out.kept hHeld.2) (HE.out.kept hHeld.2)).mono ?_; rintro e w' ⟨rfl, hb⟩) | (go_at_call 16; refine (QT3.out _ (HT.out.kept hHeld.2) (HE.out.kept hHeld.2)).mono ?_; rintro e w' ⟨rfl, hb⟩) | (go_at_call 17; refine (QU3.out _ (HT.out.kept hHeld.2) (HE.out.kept hHeld.2)).mono ?_; rintro e w' ⟨rfl, hb⟩))
          refine hK.out _ _ (⟨hHeld.1.kept hb, Bel.then hHeld.2 hb⟩) (fun hHeld => ?_)
          clear hK K
          (try simp only [Act.put]); (try simp only [List.setIfInBounds_toArray]); (try simp only [List.set_cons_succ]); (try simp only [List.set_cons_zero])
          refine wpAnyH_ready (rs := [7]) (by kernel_rfl) (by simp) ?_
          refine AllReadyH.cons nth7 (fun K hK => ?_) AllReadyH.nil
          go_simp
          (first | (go_at_call 9; refine (awake_c _).mono ?_; rintro e w' ⟨rfl, hb⟩) | (go_at_call 14; refine (QE3.out _ (HT.out.kept hHeld.2) (HE.out.kept hHeld.2)).mono ?_; rintro e w' ⟨rfl, hb⟩) | (go_at_call 15; refine (QR3.out _ (HT.out.kept hHeld.2) (HE.out.kept hHeld.2)).mono ?_; rintro e w' ⟨rfl, hb⟩) | (go_at_call 16; refine (QT3.out _ (HT.out.kept hHeld.2) (HE.out.kept hHeld.2)).mono ?_; rintro e w' ⟨rfl, hb⟩) | (go_at_call 17; refine (QU3.out _ (HT.out.kept hHeld.2) (HE.out.kept hHeld.2)).mono ?_; rintro e w' ⟨rfl, hb⟩))
          refine hK.out _ _ (⟨hHeld.1.kept hb, Bel.then hHeld.2 hb⟩) (fun hHeld => ?_)
          clear hK K
          (try simp only [Act.put]); (try simp only [List.setIfInBounds_toArray]); (try simp only [List.set_cons_succ]); (try simp only [List.set_cons_zero])
          first | (refine wpAnyH_take (i := 8) (v := ?_) nth8 (by kernel_rfl) (by kernel_rfl) (by kernel_rfl) (fun _ _ _ h => h) (Or.inl ⟨by rfl, ?_⟩) hHeld ?_; rotate_left; focus (intro wS hSw; (have l0 := Lib.cell_of_heap hSw.1 0; have l1 := Lib.cell_of_heap hSw.1 1; have l2 := Lib.cell_of_heap hSw.1 2; have l3 := Lib.cell_of_heap hSw.1 3; have l4 := Lib.cell_of_heap hSw.1 4; have l5 := Lib.cell_of_heap hSw.1 5; have l6 := Lib.cell_of_heap hSw.1 6; have l7 := Lib.cell_of_heap hSw.1 7; have l8 := Lib.cell_of_heap hSw.1 8; have l9 := Lib.cell_of_heap hSw.1 9; have q1 := E1.out); go_simp; try with_reducible rfl; done)) | (refine wpAnyH_take (i := 8) (v := undef) nth8 (by kernel_rfl) (by kernel_rfl) (by kernel_rfl) (fun _ _ _ h => h) (Or.inr ⟨by rfl, rfl⟩) hHeld ?_)
          (try simp only [Act.put]); (try simp only [List.setIfInBounds_toArray]); (try simp only [List.set_cons_succ]); (try simp only [List.set_cons_zero])
          first | (refine wpAnyH_take (i := 9) (v := ?_) nth9 (by kernel_rfl) (by kernel_rfl) (by kernel_rfl) (fun _ _ _ h => h) (Or.inl ⟨by rfl, ?_⟩) hHeld ?_; rotate_left; focus (intro wS hSw; (have l0 := Lib.cell_of_heap hSw.1 0; have l1 := Lib.cell_of_heap hSw.1 1; have l2 := Lib.cell_of_heap hSw.1 2; have l3 := Lib.cell_of_heap hSw.1 3; have l4 := Lib.cell_of_heap hSw.1 4; have l5 := Lib.cell_of_heap hSw.1 5; have l6 := Lib.cell_of_heap hSw.1 6; have l7 := Lib.cell_of_heap hSw.1 7; have l8 := Lib.cell_of_heap hSw.1 8; have l9 := Lib.cell_of_heap hSw.1 9; have q1 := E1.out); go_simp; try with_reducible rfl; done)) | (refine wpAnyH_take (i := 9) (v := undef) nth9 (by kernel_rfl) (by kernel_rfl) (by kernel_rfl) (fun _ _ _ h => h) (Or.inr ⟨by rfl, rfl⟩) hHeld ?_)
          (try simp only [Act.put]); (try simp only [List.setIfInBounds_toArray]); (try simp only [List.set_cons_succ]); (try simp only [List.set_cons_zero])
          first | (refine wpAnyH_take (i := 10) (v := ?_) nth10 (by kernel_rfl) (by kernel_rfl) (by kernel_rfl) (fun _ _ _ h => h) (Or.inl ⟨by rfl, ?_⟩) hHeld ?_; rotate_left; focus (intro wS hSw; (have l0 := Lib.cell_of_heap hSw.1 0; have l1 := Lib.cell_of_heap hSw.1 1; have l2 := Lib.cell_of_heap hSw.1 2; have l3 := Lib.cell_of_heap hSw.1 3; have l4 := Lib.cell_of_heap hSw.1 4; have l5 := Lib.cell_of_heap hSw.1 5; have l6 := Lib.cell_of_heap hSw.1 6; have l7 := Lib.cell_of_heap hSw.1 7; have l8 := Lib.cell_of_heap hSw.1 8; have l9 := Lib.cell_of_heap hSw.1 9; have q1 := E1.out); go_simp; try with_reducible rfl; done)) | (refine wpAnyH_take (i := 10) (v := undef) nth10 (by kernel_rfl) (by kernel_rfl) (by kernel_rfl) (fun _ _ _ h => h) (Or.inr ⟨by rfl, rfl⟩) hHeld ?_)
          (try simp only [Act.put]); (try simp only [List.setIfInBounds_toArray]); (try simp only [List.set_cons_succ]); (try simp only [List.set_cons_zero])
          first | (refine wpAnyH_take (i := 11) (v := ?_) nth11 (by kernel_rfl) (by kernel_rfl) (by kernel_rfl) (fun _ _ _ h => h) (Or.inl ⟨by rfl, ?_⟩) hHeld ?_; rotate_left; focus (intro wS hSw; (have l0 := Lib.cell_of_heap hSw.1 0; have l1 := Lib.cell_of_heap hSw.1 1; have l2 := Lib.cell_of_heap hSw.1 2; have l3 := Lib.cell_of_heap hSw.1 3; have l4 := Lib.cell_of_heap hSw.1 4; have l5 := Lib.cell_of_heap hSw.1 5; have l6 := Lib.cell_of_heap hSw.1 6; have l7 := Lib.cell_of_heap hSw.1 7; have l8 := Lib.cell_of_heap hSw.1 8; have l9 := Lib.cell_of_heap hSw.1 9; have q1 := E1.out); go_simp; try with_reducible rfl; done)) | (refine wpAnyH_take (i := 11) (v := undef) nth11 (by kernel_rfl) (by kernel_rfl) (by kernel_rfl) (fun _ _ _ h => h) (Or.inr ⟨by rfl, rfl⟩) hHeld ?_)
          (try simp only [Act.put]); (try simp only [List.setIfInBounds_toArray]); (try simp only [List.set_cons_succ]); (try simp only [List.set_cons_zero])
          first | (refine wpAnyH_take (i := 12) (v := ?_) nth12 (by kernel_rfl) (by kernel_rfl) (by kernel_rfl) (fun _ _ _ h => h) (Or.inl ⟨by rfl, ?_⟩) hHeld ?_; rotate_left; focus (intro wS hSw; (have l0 := Lib.cell_of_heap hSw.1 0; have l1 := Lib.cell_of_heap hSw.1 1; have l2 := Lib.cell_of_heap hSw.1 2; have l3 := Lib.cell_of_heap hSw.1 3; have l4 := Lib.cell_of_heap hSw.1 4; have l5 := Lib.cell_of_heap hSw.1 5; have l6 := Lib.cell_of_heap hSw.1 6; have l7 := Lib.cell_of_heap hSw.1 7; have l8 := Lib.cell_of_heap hSw.1 8; have l9 := Lib.cell_of_heap hSw.1 9; have q1 := E1.out); go_simp; try with_reducible rfl; done)) | (refine wpAnyH_take (i := 12) (v := undef) nth12 (by kernel_rfl) (by kernel_rfl) (by kernel_rfl) (fun _ _ _ h => h) (Or.inr ⟨by rfl, rfl⟩) hHeld ?_)
          (try simp only [Act.put]); (try simp only [List.setIfInBounds_toArray]); (try simp only [List.set_cons_succ]); (try simp only [List.set_cons_zero])
          first | (refine wpAnyH_take (i := 14) (v := ?_) nth14 (by kernel_rfl) (by kernel_rfl) (by kernel_rfl) (fun _ _ _ h => h) (Or.inl ⟨by rfl, ?_⟩) hHeld ?_; rotate_left; focus (intro wS hSw; (have l0 := Lib.cell_of_heap hSw.1 0; have l1 := Lib.cell_of_heap hSw.1 1; have l2 := Lib.cell_of_heap hSw.1 2; have l3 := Lib.cell_of_heap hSw.1 3; have l4 := Lib.cell_of_heap hSw.1 4; have l5 := Lib.cell_of_heap hSw.1 5; have l6 := Lib.cell_of_heap hSw.1 6; have l7 := Lib.cell_of_heap hSw.1 7; have l8 := Lib.cell_of_heap hSw.1 8; have l9 := Lib.cell_of_heap hSw.1 9; have q1 := E1.out); go_simp; try with_reducible rfl; done)) | (refine wpAnyH_take (i := 14) (v := undef) nth14 (by kernel_rfl) (by kernel_rfl) (by kernel_rfl) (fun _ _ _ h => h) (Or.inr ⟨by rfl, rfl⟩) hHeld ?_)
          (try simp only [Act.put]); (try simp only [List.setIfInBounds_toArray]); (try simp only [List.set_cons_succ]); (try simp only [List.set_cons_zero])
          first | (refine wpAnyH_take (i := 15) (v := ?_) nth15 (by kernel_rfl) (by kernel_rfl) (by kernel_rfl) (fun _ _ _ h => h) (Or.inl ⟨by rfl, ?_⟩) hHeld ?_; rotate_left; focus (intro wS hSw; (have l0 := Lib.cell_of_heap hSw.1 0; have l1 := Lib.cell_of_heap hSw.1 1; have l2 := Lib.cell_of_heap hSw.1 2; have l3 := Lib.cell_of_heap hSw.1 3; have l4 := Lib.cell_of_heap hSw.1 4; have l5 := Lib.cell_of_heap hSw.1 5; have l6 := Lib.cell_of_heap hSw.1 6; have l7 := Lib.cell_of_heap hSw.1 7; have l8 := Lib.cell_of_heap hSw.1 8; have l9 := Lib.cell_of_heap hSw.1 9; have q1 := E1.out); go_simp; try with_reducible rfl; done)) | (refine wpAnyH_take (i := 15) (v := undef) nth15 (by kernel_rfl) (by kernel_rfl) (by kernel_rfl) (fun _ _ _ h => h) (Or.inr ⟨by rfl, rfl⟩) hHeld ?_)
          (try simp only [Act.put]); (try simp only [List.setIfInBounds_toArray]); (try simp only [List.set_cons_succ]); (try simp only [List.set_cons_zero])
          refine wpAnyH_ready (rs := [13]) (by kernel_rfl) (by simp) ?_
          refine AllReadyH.cons nth13 (fun K hK => ?_) AllReadyH.nil
          go_simp
          (first | (go_at_call 9; refine (awake_c _).mono ?_; rintro e w' ⟨rfl, hb⟩) | (go_at_call 14; refine (QE3.out _ (HT.out.kept hHeld.2) (HE.out.kept hHeld.2)).mono ?_; rintro e w' ⟨rfl, hb⟩) | (go_at_call 15; refine (QR3.out _ (HT.out.kept hHeld.2) (HE.out.kept hHeld.2)).mono ?_; rintro e w' ⟨rfl, hb⟩) | (go_at_call 16; refine (QT3.out _ (HT.out.kept hHeld.2) (HE.out.kept hHeld.2)).mono ?_; rintro e w' ⟨rfl, hb⟩) | (go_at_call 17; refine (QU3.out _ (HT.out.kept hHeld.2) (HE.out.kept hHeld.2)).mono ?_; rintro e w' ⟨rfl, hb⟩))
          refine hK.out _ _ (⟨hHeld.1.kept hb, Bel.then hHeld.2 hb⟩) (fun hHeld => ?_)
          clear hK K
          (try simp only [Act.put]); (try simp only [List.setIfInBounds_toArray]); (try simp only [List.set_cons_succ]); (try simp only [List.set_cons_zero])
          refine wpAnyH_ready (rs := [16]) (by kernel_rfl) (by simp) ?_
          refine AllReadyH.cons nth16 (fun K hK => ?_) AllReadyH.nil
          go_simp
          (first | (go_at_call 9; refine (awake_c _).mono ?_; rintro e w' ⟨rfl, hb⟩) | (go_at_call 14; refine (QE3.out _ (HT.out.kept hHeld.2) (HE.out.kept hHeld.2)).mono ?_; rintro e w' ⟨rfl, hb⟩) | (go_at_call 15; refine (QR3.out _ (HT.out.kept hHeld.2) (HE.out.kept hHeld.2)).mono ?_; rintro e w' ⟨rfl, hb⟩) | (go_at_call 16; refine (QT3.out _ (HT.out.kept hHeld.2) (HE.out.kept hHeld.2)).mono ?_; rintro e w' ⟨rfl, hb⟩) | (go_at_call 17; refine (QU3.out _ (HT.out.kept hHeld.2) (HE.out.kept hHeld.2)).mono ?_; rintro e w' ⟨rfl, hb⟩))
          refine hK.out _ _ (⟨hHeld.1.kept hb, Bel.then hHeld.2 hb⟩) (fun hHeld => ?_)
          clear hK K
          (try simp only [Act.put]); (try simp only [List.setIfInBounds_toArray]); (try simp only [List.set_cons_succ]); (try simp only [List.set_cons_zero])
          first | (refine wpAnyH_take (i := 17) (v := ?_) nth17 (by kernel_rfl) (by kernel_rfl) (by kernel_rfl) (fun _ _ _ h => h) (Or.inl ⟨by rfl, ?_⟩) hHeld ?_; rotate_left; focus (intro wS hSw; (have l0 := Lib.cell_of_heap hSw.1 0; have l1 := Lib.cell_of_heap hSw.1 1; have l2 := Lib.cell_of_heap hSw.1 2; have l3 := Lib.cell_of_heap hSw.1 3; have l4 := Lib.cell_of_heap hSw.1 4; have l5 := Lib.cell_of_heap hSw.1 5; have l6 := Lib.cell_of_heap hSw.1 6; have l7 := Lib.cell_of_heap hSw.1 7; have l8 := Lib.cell_of_heap hSw.1 8; have l9 := Lib.cell_of_heap hSw.1 9; have q1 := E1.out); go_simp; try with_reducible rfl; done)) | (refine wpAnyH_take (i := 17) (v := undef) nth17 (by kernel_rfl) (by kernel_rfl) (by kernel_rfl) (fun _ _ _ h => h) (Or.inr ⟨by rfl, rfl⟩) hHeld ?_)
          (try simp only [Act.put]); (try simp only [List.setIfInBounds_toArray]); (try simp only [List.set_cons_succ]); (try simp only [List.set_cons_zero])
          first | (refine wpAnyH_take (i := 18) (v := ?_) nth18 (by kernel_rfl) (by kernel_rfl) (by kernel_rfl) (fun _ _ _ h => h) (Or.inl ⟨by rfl, ?_⟩) hHeld ?_; rotate_left; focus (intro wS hSw; (have l0 := Lib.cell_of_heap hSw.1 0; have l1 := Lib.cell_of_heap hSw.1 1; have l2 := Lib.cell_of_heap hSw.1 2; have l3 := Lib.cell_of_heap hSw.1 3; have l4 := Lib.cell_of_heap hSw.1 4; have l5 := Lib.cell_of_heap hSw.1 5; have l6 := Lib.cell_of_heap hSw.1 6; have l7 := Lib.cell_of_heap hSw.1 7; have l8 := Lib.cell_of_heap hSw.1 8; have l9 := Lib.cell_of_heap hSw.1 9; have q1 := E1.out); go_simp; try with_reducible rfl; done)) | (refine wpAnyH_take (i := 18) (v := undef) nth18 (by kernel_rfl) (by kernel_rfl) (by kernel_rfl) (fun _ _ _ h => h) (Or.inr ⟨by rfl, rfl⟩) hHeld ?_)
          (try simp only [Act.put]); (try simp only [List.setIfInBounds_toArray]); (try simp only [List.set_cons_succ]); (try simp only [List.set_cons_zero])
          first | (refine wpAnyH_take (i := 19) (v := ?_) nth19 (by kernel_rfl) (by kernel_rfl) (by kernel_rfl) (fun _ _ _ h => h) (Or.inl ⟨by rfl, ?_⟩) hHeld ?_; rotate_left; focus (intro wS hSw; (have l0 := Lib.cell_of_heap hSw.1 0; have l1 := Lib.cell_of_heap hSw.1 1; have l2 := Lib.cell_of_heap hSw.1 2; have l3 := Lib.cell_of_heap hSw.1 3; have l4 := Lib.cell_of_heap hSw.1 4; have l5 := Lib.cell_of_heap hSw.1 5; have l6 := Lib.cell_of_heap hSw.1 6; have l7 := Lib.cell_of_heap hSw.1 7; have l8 := Lib.cell_of_heap hSw.1 8; have l9 := Lib.cell_of_heap hSw.1 9; have q1 := E1.out); go_simp; try with_reducible rfl; done)) | (refine wpAnyH_take (i := 19) (v := undef) nth19 (by kernel_rfl) (by kernel_rfl) (by kernel_rfl) (fun _ _ _ h => h) (Or.inr ⟨by rfl, rfl⟩) hHeld ?_)
          (try simp only [Act.put]); (try simp only [List.setIfInBounds_toArray]); (try simp only [List.set_cons_succ]); (try simp only [List.set_cons_zero])
          refine wpAnyH_done (by kernel_rfl) ?_ _
          go_wp2_with fail
          go_ret
          exact ⟨rfl, hHeld.2⟩
end Go.Proofs.Ytlkeghfdpbfhbaa

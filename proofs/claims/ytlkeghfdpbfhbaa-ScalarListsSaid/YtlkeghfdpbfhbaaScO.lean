/- ScalarLists: outside of its range; the loop's state. -/
import Derived.Test.YtlkeghfdpbfhbaaScK
import Derived.Test.YtlkeghfdpbfhbaaScN
import Derived.Deep.CutRange
import Derived.Test.YtlkeghfdpbfhbaaDraw
namespace Go.Proofs.Ytlkeghfdpbfhbaa
set_option linter.unusedVariables false
open Go.ChangeShapes Go.WideShapes Go.ChangeAt Go.RowKit

set_option maxRecDepth 100000 in
set_option maxHeartbeats 1000000 in
theorem lists_out (a b : ValV) (A : Option Addr) (n c : Nat) (hn : n = 0 ∨ 20 < n) (w : World) : Calls Try.prog 7 #[valAgg a, .slice A n c, valAgg b] w fun e w' => e = .returned (.bool true) ∧ Below w.heap.size w w' := by
  have HB := hide (Bel.then (Bel.one w (vO a.kind a.num a.str)) (Bel.one (w.alloc (vO a.kind a.num a.str)) (vO b.kind b.num b.str)))
  unfold valAgg
  rcases (show n = 0 ∨ (¬ n = 0 ∧ 20 < n) by omega) with h1 | ⟨h1, h2⟩
  · clear hn
    subst h1
    go_enter Try.func7, Try.ntmps7
    go_wp2_with fail
    refine (awake_c _).mono ?_
    rintro e w2 ⟨rfl, hb⟩
    go_wp2_with fail
    go_ret
    exact ⟨rfl, Bel.then HB.out hb⟩
  · clear hn
    have h3 : ¬ (n : Int) = 0 := by omega
    have h4 : (20 : Int) < (n : Int) := by omega
    have h5 : ((n : Int) == 0) = false := by rw [beq_eq_false_iff_ne]; omega
    go_enter Try.func7, Try.ntmps7
    go_wp2_with fail
    refine (awake_c _).mono ?_
    rintro e w2 ⟨rfl, hb⟩
    go_wp2_with fail
    go_ret
    exact ⟨rfl, Bel.then HB.out hb⟩
/-- The loop's state: the two boxes that came in, the box of `or`, the two rows that grow. -/
structure LiS (w : World) (a b : ValV) (go : Nat) (O : ValV) (T Z : List ValV) (u8 u9 : Value) (w' : World) : Prop where
  va : VB w' w.heap.size a
  vb : VB w' (w.heap.size + 1) b
  vo : VB w' go O
  t : w'.ownsRow (go + 1) 26 3 u8 T.length (T.map valCells).flatten
  s : w'.ownsRow (go + 1) 26 3 u9 Z.length (Z.map valCells).flatten
  hb : Below w.heap.size w w'
  far : ∀ g, u8.ownBlock = some g → u9.ownBlock ≠ some g
  gg : w.heap.size + 2 ≤ go
theorem LiS.kept {w : World} {a b O : ValV} {go : Nat} {T Z : List ValV} {u8 u9 : Value} {w' w'' : World} (h : LiS w a b go O T Z u8 u9 w') (hb : Below w'.heap.size w' w'') : LiS w a b go O T Z u8 u9 w'' :=
  ⟨h.va.kept hb, h.vb.kept hb, h.vo.kept hb, own_below h.t hb, own_below h.s hb, Bel.then h.hb hb, h.far, h.gg⟩
theorem LiS.new {w w1 : World} (a b : ValV) (ha : VB w1 w.heap.size a) (hv : VB w1 (w.heap.size + 1) b) (hb : Below w.heap.size w w1) :
    LiS w a b w1.heap.size (boolV false) [a] [] (.slice (some ⟨w1.heap.size + 1, 0, none⟩) 1 1) (.slice (some ⟨w1.heap.size + 2, 0, none⟩) 0 0) (((w1.alloc (vO 1 0 .empty)).alloc (.cells #[.int .i64 a.kind, .int .i64 a.num, .string a.str] 26)).alloc (.cells #[] 26)) := by
  obtain ⟨o1, e1⟩ : ∃ o : Obj, o = vO 1 0 .empty := ⟨_, rfl⟩
  obtain ⟨o2, e2⟩ : ∃ o : Obj, o = .cells #[.int .i64 a.kind, .int .i64 a.num, .string a.str] 26 := ⟨_, rfl⟩
  obtain ⟨o3, e3⟩ : ∃ o : Obj, o = .cells #[] 26 := ⟨_, rfl⟩
  have s1 : (w1.alloc o1).heap.size = w1.heap.size + 1 := World.size_alloc _ _
  have s2 : ((w1.alloc o1).alloc o2).heap.size = w1.heap.size + 2 := by rw [World.size_alloc, s1]
  rw [← e1, ← e2, ← e3]
  have b1 := Bel.one w1 o1
  have b2 := Bel.one (w1.alloc o1) o2
  have b3 := Bel.one ((w1.alloc o1).alloc o2) o3
  have k1 : VB (w1.alloc o1) w1.heap.size (boolV false) := by rw [e1]; exact vb_new _ _ _ _
  have k2 : ((w1.alloc o1).alloc o2).heap[w1.heap.size + 1]? = some o2 := by rw [← s1]; exact heap_alloc_new _ _
  have k3 : (((w1.alloc o1).alloc o2).alloc o3).heap[w1.heap.size + 2]? = some o3 := by rw [← s2]; exact heap_alloc_new _ _
  have k2' : (((w1.alloc o1).alloc o2).alloc o3).heap[w1.heap.size + 1]? = some o2 := (b3.block _ (by rw [s2]; omega)).trans k2
  refine ⟨(((ha.kept b1).kept b2).kept b3), (((hv.kept b1).kept b2).kept b3), ((k1.kept b2).kept b3), ⟨rfl, .inr ⟨w1.heap.size + 1, 1, _, rfl, Nat.le_refl _, k2'.trans (by rw [e2]), Nat.le_refl _, by decide, rfl, rfl⟩⟩, ⟨rfl, .inr ⟨w1.heap.size + 2, 0, _, rfl, by omega, k3.trans (by rw [e3]), Nat.le_refl _, by decide, rfl, rfl⟩⟩, Bel.then (Bel.then (Bel.then hb b1) b2) b3, ?_, hv.lt⟩
  intro g h1 h2
  simp only [Value.ownBlock, Option.some.injEq] at h1 h2
  omega
theorem own_setV {w : World} {base size n b : Nat} {e : TypeId} {v : Value} {xs : List Value} (h : w.ownsRow base e size v n xs) (hb : b < base) (u : ValV) : (setV w b u).ownsRow base e size v n xs := by
  refine ⟨h.1, ?_⟩
  rcases h.2 with hn | ⟨g, cap, cur, rfl, h1, hg, rest⟩
  · exact .inl hn
  · exact .inr ⟨g, cap, cur, rfl, h1, hp_far hg (show b ≠ g by omega) u, rest⟩
/-- An element of a row that came in: where it lies, and its three cells. -/
theorem el_at {w : World} {B n c : Nat} {A : Option Addr} {l : List ValV} (h : RowV w B A n c l) (hB : B ≤ w.heap.size) {i : Nat} (hi : i < n) : ∃ blk off v, A = some ⟨blk, off, none⟩ ∧ l[i]? = some v ∧ Cl w blk (off + i * 3) v.kind v.num v.str := by
  obtain ⟨blk, off, v, hA, hb, hl, hc⟩ := h.at (by omega) hi
  exact ⟨blk, off, v, hA, hl, by omega, hc 0 _ rfl, hc 1 _ rfl, hc 2 _ rfl⟩
/-- The first row has grown. -/
theorem LiS.app8 {w : World} {a b O : ValV} {go : Nat} {T Z news : List ValV} {u8 u9 v : Value} {w' w'' : World} (h : LiS w a b go O T Z u8 u9 w') (ho : w''.ownsRow (go + 1) 26 3 v (T.length + news.length) ((T.map valCells).flatten ++ (news.map valCells).flatten))
    (hg : w'.grownBy w'' u8.ownBlock) (hat : v.ownBlock = u8.ownBlock ∨ v.ownBlock = some w'.heap.size) : LiS w a b go O (T ++ news) Z v u9 w'' := by
  have hgg := h.gg
  have hlt : ∀ k, u8.ownBlock = some k → go + 1 ≤ k := fun k hk => (h.t.lt k hk).1
  have hbl : ∀ g, g < w'.heap.size → g ≤ go → w''.heap[g]? = w'.heap[g]? := fun g h1 h2 => hg.block g h1 (fun e => by have := hlt g (by first | exact e | exact e.symm); omega)
  have hne : u8.ownBlock = none ∨ u8.ownBlock ≠ u9.ownBlock := by
    cases hb : u8.ownBlock with
    | none => exact .inl rfl
    | some g => exact .inr (fun e => h.far g hb e.symm)
  have h9 := own_other h.s hne hg hat
  refine ⟨(hbl _ h.va.lt (by omega)).trans h.va, (hbl _ h.vb.lt (by omega)).trans h.vb, (hbl _ h.vo.lt (Nat.le_refl _)).trans h.vo, by simpa using ho, h9.1, h.hb.grown hg h.hb.size (fun k hk => by have := hlt k hk; omega), ?_, h.gg⟩
  intro g h1 h2
  rcases h9.2 with e | e
  · rw [e] at h1; cases h1
  · exact e (h1.trans h2.symm)
/-- The second row has grown. -/
theorem LiS.app9 {w : World} {a b O : ValV} {go : Nat} {T Z news : List ValV} {u8 u9 v : Value} {w' w'' : World} (h : LiS w a b go O T Z u8 u9 w') (ho : w''.ownsRow (go + 1) 26 3 v (Z.length + news.length) ((Z.map valCells).flatten ++ (news.map valCells).flatten))
    (hg : w'.grownBy w'' u9.ownBlock) (hat : v.ownBlock = u9.ownBlock ∨ v.ownBlock = some w'.heap.size) : LiS w a b go O T (Z ++ news) u8 v w'' := by
  have hgg := h.gg
  have hlt : ∀ k, u9.ownBlock = some k → go + 1 ≤ k := fun k hk => (h.s.lt k hk).1
  have hbl : ∀ g, g < w'.heap.size → g ≤ go → w''.heap[g]? = w'.heap[g]? := fun g h1 h2 => hg.block g h1 (fun e => by have := hlt g (by first | exact e | exact e.symm); omega)
  have hne : u9.ownBlock = none ∨ u9.ownBlock ≠ u8.ownBlock := by
    cases hb : u9.ownBlock with
    | none => exact .inl rfl
    | some g => exact .inr (fun e => h.far g e.symm hb)
  have h9 := own_other h.t hne hg hat
  refine ⟨(hbl _ h.va.lt (by omega)).trans h.va, (hbl _ h.vb.lt (by omega)).trans h.vb, (hbl _ h.vo.lt (Nat.le_refl _)).trans h.vo, h9.1, by simpa using ho, h.hb.grown hg h.hb.size (fun k hk => by have := hlt k hk; omega), ?_, h.gg⟩
  intro g h1 h2
  rcases h9.2 with e | e
  · rw [e] at h2; cases h2
  · exact e (h2.trans h1.symm)
/-- The box of `or` written. -/
theorem LiS.set {w : World} {a b O : ValV} {go : Nat} {T Z : List ValV} {u8 u9 : Value} {w' : World} (h : LiS w a b go O T Z u8 u9 w') (O' : ValV) : LiS w a b go O' T Z u8 u9 (setV w' go O') := by
  have hg := h.gg
  exact ⟨h.va.far (by omega) O', h.vb.far (by omega) O', h.vo.set3 O', own_setV h.t (by omega) O', own_setV h.s (by omega) O', below_setV h.hb (by omega) O', h.far, h.gg⟩
end Go.Proofs.Ytlkeghfdpbfhbaa

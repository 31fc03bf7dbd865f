/- The contract of the reference's Merge. -/
import Derived.Test.YtahdkfenpflahaaSoX
namespace Go.Proofs.Ytahdkfenpflahaa
set_option linter.unusedVariables false
open Go.ChangeShapes Go.WideShapes Go.ChangeAt Go.RowKit

section
variable {w w' : World} {b1 b2 k1 k2 n1 n2 : Nat} {e1 e2 : TypeId} {v1 v2 : Value} {x1 x2 : List Value}
/-- Rows of the call's own of two types lie apart. -/
theorem own_ne (h1 : w.ownsRow b1 e1 k1 v1 n1 x1) (h2 : w.ownsRow b2 e2 k2 v2 n2 x2) (he : e1 ≠ e2) : v1.ownBlock = none ∨ v1.ownBlock ≠ v2.ownBlock := by
  rcases h1.2 with ⟨rfl, _⟩ | ⟨g1, c1, cur1, rfl, _, hg1, _⟩
  · exact .inl rfl
  refine .inr ?_
  rcases h2.2 with ⟨rfl, _⟩ | ⟨g2, c2, cur2, rfl, _, hg2, _⟩
  · intro e; cases e
  · intro e
    injection e with e
    subst e
    rw [hg1] at hg2
    injection hg2 with hg2
    injection hg2 with _ ht
    exact he ht
theorem own_base {b : Nat} (h : w.ownsRow b1 e1 k1 v1 n1 x1) (hb : b ≤ b1) : w.ownsRow b e1 k1 v1 n1 x1 := by
  refine ⟨h.1, ?_⟩
  rcases h.2 with hn | ⟨g, cap, cur, rfl, h1, rest⟩
  · exact .inl hn
  · exact .inr ⟨g, cap, cur, rfl, Nat.le_trans hb h1, rest⟩
end
/-- A row of the call's own, of the heads of runs. -/
def OwnG (base : Nat) (w : World) (v : Value) (gs : List GRun) : Prop := w.ownsRow base 29 1 v gs.length (gs.map gdV)
/-- A row of values that is the call's own. -/
def OwnR (base : Nat) (w : World) (p : HRow) : Prop := p.2.length = p.1.n ∧ w.ownsRow base 44 3 (hdV p) p.1.n (p.2.map valCells).flatten
theorem ne_GH : (29 : TypeId) ≠ 23 := by decide
theorem ne_RH : (44 : TypeId) ≠ 23 := by decide
theorem ne_RG : (44 : TypeId) ≠ 29 := by decide
section
variable {base : Nat} {w w' : World} {v : Value} {gs : List GRun} {p : HRow} {A : Option Addr} {n c : Nat}
theorem OwnG.gsAt {w0 : World} (h : OwnG base w (.slice A n c) gs) (hb : Below w0.heap.size w0 w) (he : ∀ g ∈ gs, HsAt w0 g.1.A g.1.n g.1.c g.2) : GsAt w A n c gs := by
  obtain ⟨A', c', e, hs⟩ := sl_of_own (l := gs) (f := gdC) (by rw [gdC_flat]; exact h) (fun _ => rfl)
  injection e with e1 e2 e3
  subst e1 e2 e3
  exact ⟨hs, fun p hp => (he p hp).kept hb⟩
theorem OwnR.row (h : OwnR base w p) : RowAt w w.heap.size p.1.A p.1.n p.1.c p.2 := by
  obtain ⟨h1, h2⟩ := h
  rw [← h1] at h2
  obtain ⟨A', c', e, hs⟩ := sl_of_own (l := p.2) (f := valCells) h2 valCells_len
  unfold hdV at e
  injection e with e1 e2 e3
  rw [e1, e2, e3]
  exact hs
theorem OwnH.hsR {os : List HRow} (h : OwnH base w v os) (hr : ∀ p ∈ os, OwnR base w p) : ∃ A c, v = .slice A os.length c ∧ HsAt w A os.length c os := by
  obtain ⟨A, c, e, hs⟩ := sl_of_own (l := os) (f := hdC) (by rw [hdC_flat]; exact h) (fun _ => rfl)
  exact ⟨A, c, e, hs, fun p hp => (hr p hp).row⟩
end
set_option maxRecDepth 100000 in
/-- Copy, and whose the new memory is. -/
theorem CopyO_c (A : Option Addr) (n c : Nat) (r : List ValV) (w : World) (h : RowAt w w.heap.size A n c r) (hn : n ≤ 1048576) :
    Calls Try.prog 31 #[.slice A n c] w fun e w' => ∃ X cx, e = .returned (.slice X n cx) ∧ OwnR w.heap.size w' (⟨X, n, cx⟩, r) ∧ Below w.heap.size w w' := by
  obtain ⟨i0, hi0, hz0, hz1, hz2⟩ := info_parts value_info'
  have hl := h.len
  have H := hide (h.kept (Bel.one w (.cells #[] 44)))
  have HO := hide (World.ownsRow_lit (base := w.heap.size) (e := 44) (size := 3) w #[] 0 (Nat.le_refl _) (by simp [maxLen]) rfl)
  have HB := hide (Bel.one w (.cells #[] 44))
  clear h
  go_enter Try.func31, Try.ntmps31
  go_wp2_with (at_builtin; refine wpList_app rfl (.tmp 3) (.tmp 4) 23 rfl w.heap.size 44 i0 _ 3 32 Try.underlying23 hi0 hz0 hz1 hz2 rfl (by omega) _ 0 [] rfl HO.out _ A n c (r.map valCells).flatten rfl (by rw [flat_len _ 3 (H.out.recs.1), List.length_map, H.out.len]) H.out.recs.2 (cells_one _) (by unfold maxLen; omega) (by omega) HB.out.size H.out.nil ?_; intro v1 w2 hown hgr _; have HOn := hide hown; have HBn := hide (own_grown HB.out hgr (by intro k hk; have hk2 : w.heap.size = k := Option.some.inj hk; omega)); clear hown hgr HO HB H)
  have ho := HOn.out
  rw [Nat.zero_add, List.nil_append] at ho
  obtain ⟨X, cx, rfl, _⟩ := own_form ho
  have HX := hide ho
  clear ho HOn
  go_wp2_with fail
  go_ret
  exact ⟨X, cx, rfl, ⟨hl, HX.out⟩, HBn.out⟩
theorem set_good {α : Type} {P : α → Prop} {L : List (List α)} {j : Nat} {x : α} {t : List α} (h : ∀ l ∈ L, ∀ r ∈ l, P r) (hj : L[j]? = some (x :: t)) : ∀ l ∈ L.set j t, ∀ r ∈ l, P r := by
  intro l hl r hr
  rcases List.mem_or_eq_of_mem_set hl with hl | rfl
  · exact h l hl r hr
  · exact h _ (List.mem_of_getElem? hj) r (by simp [hr])
/-- The run whose first row comes next, without it. -/
theorem least_take {ks : List (Int × Bool)} {gs : List GRun} {n j : Nat} {x : List ValV} {t : List (List ValV)} (h : LeastTo (ltR ks) (rowsG gs) n j x t) : ∃ gA gn gc r ps, gs[j]? = some (⟨gA, gn, gc⟩, r :: ps) ∧ r.2 = x ∧ j < gs.length ∧ rowsG (gs.set j (⟨sndA gc 1 gA, gn - 1, gc - 1⟩, ps)) = (rowsG gs).set j t := by
  have ha := h.at_
  unfold rowsG at ha
  rw [List.getElem?_map] at ha
  obtain ⟨⟨⟨gA, gn, gc⟩, qs⟩, hg, he⟩ := Option.map_eq_some_iff.1 ha
  cases qs with
  | nil => cases he
  | cons r ps =>
    simp only [List.map_cons] at he
    injection he with h1 h2
    refine ⟨gA, gn, gc, r, ps, hg, h1, (List.getElem?_eq_some_iff.1 hg).1, ?_⟩
    unfold rowsG
    rw [List.map_set, ← h2]
structure GoodR (ks : List (Int × Bool)) (r : List ValV) : Prop where
  all : AllK ks r
  strs : StrsOk r
  len : r.length ≤ 1048576
/-- What stands in memory between two rounds of Merge. -/
structure MergeR (w wr : World) (lv ov : Value) (gs : List GRun) (os : List HRow) : Prop where
  left : OwnG w.heap.size wr lv gs
  runs : ∀ g ∈ gs, HsAt w g.1.A g.1.n g.1.c g.2
  out : OwnH w.heap.size wr ov os
  rows : ∀ p ∈ os, OwnR w.heap.size wr p
  below : Below w.heap.size w wr
section
variable {w wr w' : World} {lv ov : Value} {gs : List GRun} {os : List HRow}
theorem MergeR.kept (h : MergeR w wr lv ov gs os) (hb : Below wr.heap.size wr w') : MergeR w w' lv ov gs os :=
  ⟨own_below h.left hb, h.runs, h.out.kept hb, fun p hp => ⟨(h.rows p hp).1, own_below (h.rows p hp).2 hb⟩, Bel.then h.below hb⟩
theorem MergeR.app {v1 : Value} {p : HRow} (h : MergeR w wr lv ov gs os) (hg : wr.grownBy w' ov.ownBlock) (ho : OwnH w.heap.size w' v1 (os ++ [p])) (hp : OwnR w.heap.size wr p) : MergeR w w' lv v1 gs (os ++ [p]) := by
  have hk : ∀ q, OwnR w.heap.size wr q → OwnR w.heap.size w' q := fun q hq => ⟨hq.1, hq.2.kept hg (own_ne hq.2 h.out ne_RH)⟩
  refine ⟨World.ownsRow.kept h.left hg (own_ne h.left h.out ne_GH), h.runs, ho, fun q hq => ?_, own_grown h.below hg h.out.blk⟩
  rcases List.mem_append.1 hq with hq | hq
  · exact hk q (h.rows q hq)
  · rw [List.mem_singleton.1 hq]; exact hk p hp
theorem MergeR.store {g n cap j : Nat} {gA : Option Addr} {gn gc : Nat} {r : HRow} {ps : List HRow} (h : MergeR w wr (.slice (some ⟨g, 0, none⟩) n cap) ov gs os) (hn : gs.length = n) (hj : gs[j]? = some (⟨gA, gn, gc⟩, r :: ps)) :
    MergeR w (wr.setCell ⟨g, j, none⟩ (.slice (sndA gc 1 gA) (gn - 1) (gc - 1))) (.slice (some ⟨g, 0, none⟩) n cap) ov (gs.set j (⟨sndA gc 1 gA, gn - 1, gc - 1⟩, ps)) os := by
  subst hn
  have hl := h.left
  unfold OwnG at hl
  obtain ⟨h1, h2⟩ := hl.stored j (.slice (sndA gc 1 gA) (gn - 1) (gc - 1))
  refine ⟨?_, fun q hq => ?_, World.ownsRow.kept h.out h2 ?_, fun q hq => ⟨(h.rows q hq).1, (h.rows q hq).2.kept h2 (own_ne (h.rows q hq).2 hl ne_RG)⟩, own_grown h.below h2 fun k hk => ?_⟩
  · unfold OwnG
    rw [List.length_set, List.map_set]
    exact h1
  · rcases List.mem_or_eq_of_mem_set hq with hq | rfl
    · exact h.runs q hq
    · have hb := h.runs _ (List.mem_of_getElem? hj)
      exact hs_back hb (by show 1 ≤ gn; have : ps.length + 1 = gn := hb.sl.len; omega)
  · exact own_ne h.out hl (Ne.symm ne_GH)
  · injection hk with hk
    subst hk
    exact (hl.lt _ rfl).1
end
end Go.Proofs.Ytahdkfenpflahaa

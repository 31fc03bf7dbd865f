/- Pages: isRecord, Room; contents in memory; Put, Set, Cut. -/
import Derived.Test.YtfdedkcidemimaaDoorPgZ
namespace Go.Proofs.YtfdedkcidemimaaDoor
set_option linter.unusedVariables false
set_option linter.unusedSimpArgs false
open Go.ChangeShapes Go.WideShapes Go.ChangeAt Go.RowKit

def isRec (r : ByteArray) : Bool := decide (1 ≤ r.size) && decide (r.size ≤ 400)
theorem isRecord_c (r : ByteArray) (hm : r.size ≤ 4000) (w : World) : Calls Tryd.prog 62 #[.string r] w fun e w' => e = .returned (.bool (isRec r)) ∧ w = w' := by
  unfold isRec
  rcases Nat.eq_zero_or_pos r.size with h0 | h0
  · have h1 : ¬ (1 : Int) ≤ (r.size : Int) := by omega
    have h2 : decide (1 ≤ r.size) = false := decide_eq_false (by omega)
    rw [h2]
    clear h0 h2
    go_enter Tryd.func62, Tryd.ntmps62
    go_wp2_with fail
    go_ret
    exact ⟨rfl, rfl⟩
  · have h1 : (1 : Int) ≤ (r.size : Int) := by omega
    have h2 : decide (1 ≤ r.size) = true := decide_eq_true (by omega)
    rw [h2]
    by_cases h4 : r.size ≤ 400
    · have h5 : (r.size : Int) ≤ 400 := by omega
      rw [decide_eq_true h4]
      clear h0 h2 h4
      go_enter Tryd.func62, Tryd.ntmps62
      go_wp2_with fail
      go_ret
      exact ⟨rfl, rfl⟩
    · have h5 : ¬ (r.size : Int) ≤ 400 := by omega
      rw [decide_eq_false h4]
      clear h0 h2 h4
      go_enter Tryd.func62, Tryd.ntmps62
      go_wp2_with fail
      go_ret
      exact ⟨rfl, rfl⟩
/-- A content in memory of the call's own. -/
structure CtS (w : World) (gx : Nat) (c : CtV) (v : Value) (wr : World) : Prop where
  bx : CBx wr gx c.lsn c.kind c.link v
  own : OwnS wr w.heap.size v c.recs
  b1 : w.heap.size ≤ gx
  hb : Below w.heap.size w wr
section
variable {w wr w' : World} {gx : Nat} {c : CtV} {v : Value}
theorem CtS.kept (h : CtS w gx c v wr) (hb : Below wr.heap.size wr w') : CtS w gx c v w' := ⟨h.bx.kept hb, h.own.kept hb, h.b1, Bel.then h.hb hb⟩
theorem CtS.ne (h : CtS w gx c v wr) : v.ownBlock ≠ some gx := by
  rcases h.own.2 with ⟨rfl, _⟩ | ⟨g, cap, cur, rfl, _, hh, _⟩
  · simp [Value.ownBlock]
  · intro he
    have : g = gx := by simpa [Value.ownBlock] using he
    subst this
    have hx := h.bx
    unfold CBx at hx
    rw [hx] at hh
    injection hh with hh
    injection hh with _ ht
    exact absurd ht (by decide)
theorem CtS.new {w5 : World} (hown : OwnS w5 w.heap.size v c.recs) (hb : Below w.heap.size w w5) : CtS w w5.heap.size c v (w5.alloc (.cells #[.int .i64 c.lsn, .int .i64 c.kind, .int .i64 c.link, v] 52)) :=
  ⟨cbx_new _ _ _ _ _, hown.kept (Bel.one _ _), hb.size, hb.alloc hb.size _⟩
/-- Other records. -/
theorem CtS.store (h : CtS w gx c v wr) {v' : Value} {l : List ByteArray} (ho : OwnS w' w.heap.size v' l) (hg : wr.grownBy w' v.ownBlock) (hat : v'.ownBlock ≠ some gx) : CtS w gx ⟨c.lsn, c.kind, c.link, l⟩ v' (w'.setCell ⟨gx, 3, none⟩ v') := by
  have hx : CBx w' gx c.lsn c.kind c.link v := h.bx.grown hg (fun e => h.ne e.symm)
  refine ⟨hx.set3 v', ho.far (p := ⟨gx, 3, none⟩) hx v', h.b1, ?_⟩
  refine Below.setCell (own_grown h.hb hg ?_) (p := ⟨gx, 3, none⟩) h.b1 v'
  intro k hk
  exact (World.ownsRow.lt h.own k hk).1
theorem CtS.step (h : CtS w gx c v wr) {v' : Value} {l : List ByteArray} (ho : OwnS w' w.heap.size v' l) (hg : wr.grownBy w' v.ownBlock) (hat : v'.ownBlock = v.ownBlock ∨ v'.ownBlock = some wr.heap.size) : CBx w' gx c.lsn c.kind c.link v ∧ CtS w gx ⟨c.lsn, c.kind, c.link, l⟩ v' (w'.setCell ⟨gx, 3, none⟩ v') := by
  refine ⟨h.bx.grown hg (fun e => h.ne e.symm), h.store ho hg ?_⟩
  rcases hat with e | e
  · rw [e]; exact h.ne
  · rw [e]
    intro e2
    have := h.bx.lt
    injection e2 with e2
    omega
theorem CtS.put (h : CtS w gx c v wr) {i : Nat} (hi : i < c.recs.length) (u : ByteArray) : ∃ g n cp, v = .slice (some ⟨g, 0, none⟩) n cp ∧ i < n ∧ n = c.recs.length ∧ wr.cell? ⟨g, i, none⟩ = some (.string c.recs[i]) ∧ wr.frozen? ⟨g, i, none⟩ = false ∧ CtS w gx ⟨c.lsn, c.kind, c.link, c.recs.set i u⟩ v (wr.setCell ⟨g, i, none⟩ (.string u)) := by
  obtain ⟨g, cp, rfl, hB, hc, hf⟩ := h.own.cells i hi
  refine ⟨g, c.recs.length, cp, rfl, hi, rfl, hc, hf, ?_⟩
  refine ⟨h.bx.far (p := ⟨g, i, none⟩) (box_row_ne h.own h.bx) _, h.own.put hi u, h.b1, ?_⟩
  exact h.hb.setCell (p := ⟨g, i, none⟩) hB _
end
theorem CtS.sl {w wr : World} {gx n cp : Nat} {c : CtV} {A : Option Addr} (h : CtS w gx c (.slice A n cp) wr) : SlAt stC 1 wr wr.heap.size A n cp c.recs := by
  obtain ⟨A', c', e, hs⟩ := h.own.sl
  injection e with e1 e2 e3
  subst e1 e2 e3
  exact hs
theorem OwnS.of_app {w' : World} {B : Nat} {v' : Value} {L : List ByteArray} {r : ByteArray} {n : Nat} (hn : L.length = n) (h : w'.ownsRow B 9 1 v' (n + 1) ((L.map stC).flatten ++ [.string r])) : OwnS w' B v' (L ++ [r]) := by
  subst hn
  unfold OwnS
  rw [List.map_append, List.flatten_append, List.length_append]
  exact h
def setP (l : List ByteArray) (s : Nat) (r : ByteArray) : List ByteArray := (l ++ List.replicate (s + 1 - l.length) (⟨#[]⟩ : ByteArray)).set s r
def withR (c : CtV) (l : List ByteArray) : CtV := ⟨c.lsn, c.kind, c.link, l⟩
def putS (p : ByteArray) (s : Int) (r : ByteArray) : ByteArray × Int :=
  if rightB p = true ∧ 0 ≤ s ∧ isRec r = true then (if (getS p s).2 = true then (⟨#[]⟩, 1) else if 128 ≤ s then (⟨#[]⟩, 18) else madeS (withR (readC p) (setP (readC p).recs s.toNat r))) else (⟨#[]⟩, 1)
def setS (p : ByteArray) (s : Int) (r : ByteArray) : ByteArray × Int :=
  if rightB p = true ∧ isRec r = true then (if (getS p s).2 = true then madeS (withR (readC p) ((readC p).recs.set s.toNat r)) else (⟨#[]⟩, 21)) else (⟨#[]⟩, 1)
def cutS (p : ByteArray) (s : Int) : ByteArray × Int :=
  if rightB p = true then (if (getS p s).2 = true then madeS (withR (readC p) ((readC p).recs.set s.toNat ⟨#[]⟩)) else (⟨#[]⟩, 21)) else (⟨#[]⟩, 1)
theorem getS_yes {p : ByteArray} {s : Int} (h : (getS p s).2 = true) : rightB p = true ∧ 0 ≤ s ∧ s.toNat < shN p 15 ∧ shN p (21 + 4 * s.toNat) ≠ 0 ∧ getS p s = (recAt p s.toNat, true) := by
  unfold getS at *
  split at h
  · rename_i hc
    exact ⟨hc.1, hc.2.1, hc.2.2.1, hc.2.2.2, by rw [if_pos hc]⟩
  · cases h
theorem sumS_set (l : List ByteArray) (s : Nat) (r : ByteArray) : sumS (l.set s r) ≤ sumS l + r.size := by
  induction l generalizing s with
  | nil => simp [sumS]
  | cons a l ih =>
    cases s with
    | zero => simp only [List.set_cons_zero, sumS]; omega
    | succ s =>
      simp only [List.set_cons_succ, sumS]
      have := ih s
      omega
theorem sumS_pad (l : List ByteArray) (k : Nat) : sumS (l ++ List.replicate k (⟨#[]⟩ : ByteArray)) = sumS l := by
  rw [sumS_append]
  have : sumS (List.replicate k (⟨#[]⟩ : ByteArray)) = 0 := by
    induction k with
    | zero => rfl
    | succ k ih => rw [List.replicate_succ]; simp only [sumS, ih]; rfl
  omega
theorem sizeN_set {l : List ByteArray} {s : Nat} {r : ByteArray} {b : Nat} (h : sizeN l ≤ b) : sizeN (l.set s r) ≤ b + r.size := by
  have := sumS_set l s r
  unfold sizeN at *
  rw [List.length_set]
  omega
theorem sizeN_setP {l : List ByteArray} {s : Nat} {r : ByteArray} (h : sizeN l ≤ 100000) (hs : s < 128) (hr : r.size ≤ 4000) : sizeN (setP l s r) ≤ 1048576 := by
  have h1 := sumS_set (l ++ List.replicate (s + 1 - l.length) (⟨#[]⟩ : ByteArray)) s r
  rw [sumS_pad] at h1
  unfold setP sizeN at *
  rw [List.length_set, List.length_append, List.length_replicate]
  omega
theorem readC_kind (p : ByteArray) : 0 ≤ (readC p).kind ∧ (readC p).kind ≤ 255 := by
  have := bN_lt p 10
  unfold readC
  dsimp only
  omega
end Go.Proofs.YtfdedkcidemimaaDoor

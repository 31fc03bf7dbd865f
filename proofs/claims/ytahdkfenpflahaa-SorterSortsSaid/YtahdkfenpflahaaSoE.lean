/- The contract of sorter.both: two lists become one, as mergeL says. -/
import Derived.Test.YtahdkfenpflahaaSoD
import Derived.Test.YtahdkfenpflahaaSoL1
namespace Go.Proofs.Ytahdkfenpflahaa
set_option linter.unusedVariables false
open Go.ChangeShapes Go.WideShapes Go.ChangeAt Go.RowKit

def ltK (ks : List (Int × Bool)) (p q : HRow) : Bool := befB p.2 q.2 ks
/-- A row of the call's own, of heads. -/
def OwnH (base : Nat) (w : World) (v : Value) (os : List HRow) : Prop := w.ownsRow base 23 1 v os.length (os.map hdV)
section
variable {base g n c : Nat} {w w' : World} {v : Value} {os : List HRow} {A : Option Addr}
theorem OwnH.kept (h : OwnH base w v os) (hb : Below w.heap.size w w') : OwnH base w' v os := own_below h hb
theorem OwnH.ne (h : OwnH base w v os) (hq : QBox w g A n c) : some g ≠ v.ownBlock := by
  rcases h.2 with ⟨hv, _⟩ | ⟨b, cap, cur, rfl, _, hg, _⟩
  · subst hv
    intro e
    cases e
  · intro e
    injection e with e
    subst e
    unfold QBox at hq
    rw [hg] at hq
    injection hq with hq
    injection hq with _ ht
    exact absurd ht (by decide)
theorem OwnH.far (h : OwnH base w v os) (hq : QBox w g A n c) (u : Value) : OwnH base (w.setCell ⟨g, 0, none⟩ u) v os := by
  have hne := h.ne hq
  refine ⟨h.1, ?_⟩
  rcases h.2 with hn | ⟨b, cap, cur, rfl, h1, hg, rest⟩
  · exact .inl hn
  · refine .inr ⟨b, cap, cur, rfl, h1, (Below.heap_setCell w ⟨g, 0, none⟩ u b fun e => hne ?_).trans hg, rest⟩
    show some g = some b
    rw [e]
theorem OwnH.len (h : OwnH base w v os) : lenV v = os.length := by
  rcases h.2 with ⟨hv, h0⟩ | ⟨b, cap, cur, rfl, _⟩
  · subst hv
    exact h0.symm
  · rfl
end
theorem QBox.grown {w w' : World} {g n c : Nat} {A : Option Addr} {row : Option Nat} (h : QBox w g A n c) (hb : w.grownBy w' row) (hg : some g ≠ row) : QBox w' g A n c := (hb.block g h.lt hg).trans h
theorem hd_one (os : List HRow) : ∀ u ∈ os.map hdV, u.oneCell' = true := by
  intro u hu
  obtain ⟨p, _, rfl⟩ := List.mem_map.1 hu
  rfl
theorem merge_mem {ks : List (Int × Bool)} {ps qs : List HRow} {p : HRow} (h : p ∈ mergeL (ltK ks) ps qs) : p ∈ ps ∨ p ∈ qs := List.mem_append.1 ((mergeL_perm (ltK ks) ps qs).mem_iff.1 h)
end Go.Proofs.Ytahdkfenpflahaa

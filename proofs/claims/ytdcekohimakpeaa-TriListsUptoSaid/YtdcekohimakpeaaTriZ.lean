/- The statements on package tri, out of their walks. -/
import Derived.Test.YtdcekohimakpeaaTriB
import Derived.Test.YtdcekohimakpeaaTriSaysFrame
import Derived.Test.YtdcekohimakpeaaTriListsFrame
import Derived.Test.YtdcekohimakpeaaBulk
namespace Go.Proofs.Ytdcekohimakpeaa
open Go.ChangeShapes Go.WideShapes Go.ChangeAt Go.RowKit Go.Joins

theorem cellsVal : Try.prog.cellsOf 23 = 3 := by kernel_rfl
theorem open_Val {H : Type} {enc : TypeId × Value → H} {w : World} {base : Nat} {v : Value} {d : DataW H} {p : List MemPlace}
    (hok : Value.okWide Try.prog w .any base 23 v) (h : DataW.Trod enc Try.prog w 0 (fun _ => true) true 23 v d p) :
    ∃ (k n : Int) (s : ByteArray), v = .agg #[.int .i64 k, .int .i64 n, .string s] ∧ d = .agg [.lit (.int .i64 k), .lit (.int .i64 n), .lit (.string s.data.toList)] ∧ (Lit.int .i64 k).wf = true ∧ (Lit.int .i64 n).wf = true ∧ s.size ≤ maxLen := by
  obtain ⟨c0, c1, c2, y0, y1, y2, m, rfl, rfl, _, hy0, hy1, hy2⟩ := open_agg3 Try.underlying23 (by kernel_rfl) cellsVal hok h
  obtain ⟨k, e0, rfl, wk⟩ := DataW.trod_int Try.underlying3 hy0
  obtain ⟨n, e1, rfl, wn⟩ := DataW.trod_int Try.underlying3 hy1
  obtain ⟨s, e2, rfl, ws⟩ := DataW.trod_string Try.underlying9 hy2
  simp at e0 e1 e2
  subst e0 e1 e2
  exact ⟨k, n, s, rfl, rfl, wk, wn, ws⟩

/-- The law TriSays: what the package says of any two numbers and any value is what the document's reference says. -/
theorem triSays_holds : Rows.TriSaysSaid := triSaysFrame.of_walk (by
  intro H enc W base v0 v1 v2 d0 d1 d2 p0 p1 p2 k0 h0 k1 h1 k2 h2
  obtain ⟨a, rfl, _, _, _⟩ := open_int Try.underlying3 k0 h0
  obtain ⟨b, rfl, _, _, _⟩ := open_int Try.underlying3 k1 h1
  obtain ⟨k, n, s, rfl, _⟩ := open_Val k2 h2
  exact says_walk a b k n s W)
/-- The law TriLists, where what it reads is of bulk at most 1048576. -/
theorem triLists_holds : Rows.TriListsUptoSaid := triListsFrame.of_walk (by
  intro H enc W base v0 v1 d0 d1 p0 p1 k0 h0 k1 h1 hk
  obtain ⟨A, n, c, xs, rfl, _, _, hA, hx, _, hd⟩ := open_Ints Try.underlying32 Try.underlying3 (by kernel_rfl) k0 h0
  obtain ⟨B, m, d, ys, rfl, _, _, hB, hy, _, he⟩ := open_Ints Try.underlying32 Try.underlying3 (by kernel_rfl) k1 h1
  have hb := bulk_all hk
  simp only [Rows.uptoBulkAll] at hb
  have h1 := bulk_ints hx.1 hd
  have h2 := bulk_ints hy.1 he
  exact lists_walk A B n m c d xs ys W hx hy (by omega) (by omega) hA hB)
end Go.Proofs.Ytdcekohimakpeaa

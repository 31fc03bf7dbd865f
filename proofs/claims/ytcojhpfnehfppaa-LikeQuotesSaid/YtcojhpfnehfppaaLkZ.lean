/- The statements on package like, out of their walks: Match, Exact, Prefix and Quote agree with the reference; a quoted text matches just itself; what a pattern matches begins with its prefix; texts one behind the other match patterns one behind the other. For every input. -/
import Derived.Test.YtcojhpfnehfppaaLkX
import Derived.Test.YtcojhpfnehfppaaLikeSaysFrame
import Derived.Test.YtcojhpfnehfppaaLikeQuotesFrame
import Derived.Test.YtcojhpfnehfppaaLikeBeginsFrame
import Derived.Test.YtcojhpfnehfppaaLikeJoinsFrame
namespace Go.Proofs.Ytcojhpfnehfppaa
set_option linter.unusedVariables false
open Go.ChangeShapes Go.WideShapes Go.ChangeAt Go.RowKit Go.Joins
open Go.ChangeMaps (open_string)

/-- An array of two texts by value. -/
theorem open_arr2s {H : Type} {enc : TypeId × Value → H} {P : Program} {w : World} {base : Nat} {t e : TypeId} {v : Value} {d : DataW H} {p : List MemPlace}
    (ht : P.underlying t = some (.array 2 e)) (he : P.underlying e = some .string) (hc : P.cellsOf e = 1) (hC : P.cellsOf t = 2)
    (hok : Value.okWide P w .any base t v) (h : DataW.Trod enc P w 0 (fun _ => true) true t v d p) :
    ∃ a b : ByteArray, v = .agg #[.string a, .string b] ∧ a.size ≤ maxLen ∧ b.size ≤ maxLen := by
  simp only [Value.okWide, ht] at hok
  obtain ⟨cs, rfl, hsz, _⟩ := hok
  obtain ⟨l⟩ := cs
  match l, hsz.trans hC with
  | [c0, c1], _ =>
    obtain ⟨fuel, hf⟩ := h
    obtain ⟨xs, m, _, _, _, hlen, hg⟩ := DataW.trod_array ht hf
    match xs, hlen with
    | [y0, y1], _ =>
      obtain ⟨a, e0, _, wa⟩ := DataW.trod_string he (by simpa [Value.cells, hc] using hg 0 (by omega))
      obtain ⟨b, e1, _, wb⟩ := DataW.trod_string he (by simpa [Value.cells, hc] using hg 1 (by omega))
      simp at e0 e1
      subst e0 e1
      exact ⟨a, b, rfl, wa, wb⟩
theorem likeSays_holds : Rows.LikeSaysSaid := likeSaysFrame.of_walk (by
  intro H enc W base v0 v1 d0 d1 p0 p1 k0 h0 k1 h1
  obtain ⟨s, rfl, _, _, hs⟩ := open_string Try.underlying9 k0 h0
  obtain ⟨t, rfl, _, _, ht⟩ := open_string Try.underlying9 k1 h1
  exact says_w s t W hs ht)
theorem likeQuotes_holds : Rows.LikeQuotesSaid := likeQuotesFrame.of_walk (by
  intro H enc W base v0 v1 d0 d1 p0 p1 k0 h0 k1 h1
  obtain ⟨s, rfl, _, _, hs⟩ := open_string Try.underlying9 k0 h0
  obtain ⟨t, rfl, _, _, ht⟩ := open_string Try.underlying9 k1 h1
  exact quotes_w s t W hs ht)
theorem likeBegins_holds : Rows.LikeBeginsSaid := likeBeginsFrame.of_walk (by
  intro H enc W base v0 v1 v2 d0 d1 d2 p0 p1 p2 k0 h0 k1 h1 k2 h2
  obtain ⟨s, rfl, _, _, hs⟩ := open_string Try.underlying9 k0 h0
  obtain ⟨t, rfl, _, _, ht⟩ := open_string Try.underlying9 k1 h1
  obtain ⟨n, rfl, _, _, wn⟩ := open_int Try.underlying5 k2 h2
  have hn := bounds_u8 wn
  obtain ⟨k, rfl⟩ : ∃ k : Nat, n = (k : Int) := ⟨n.toNat, by omega⟩
  exact begins_w s t k W hs ht (by omega))
theorem likeJoins_holds : Rows.LikeJoinsSaid := likeJoinsFrame.of_walk (by
  intro H enc W base v0 v1 d0 d1 p0 p1 k0 h0 k1 h1
  obtain ⟨a, b, rfl, ha, hb⟩ := open_arr2s Try.underlying29 Try.underlying9 (by kernel_rfl) (by kernel_rfl) k0 h0
  obtain ⟨c, d, rfl, hc, hd⟩ := open_arr2s Try.underlying29 Try.underlying9 (by kernel_rfl) (by kernel_rfl) k1 h1
  exact joins_w a b c d W ha hb hc hd)
end Go.Proofs.Ytcojhpfnehfppaa

/- What is put, set, cut, added or taken away at one slot leaves every other record as it was: proved for every string of bytes, every two slots and every record, under the door row of the laid table. -/
import Derived.Test.YtfdedkcidemimaaDoorPsF
import Derived.Test.YtfdedkcidemimaaDoorPageOthersFrame
namespace Go.Proofs.YtfdedkcidemimaaDoor
set_option linter.unusedVariables false
open Go.ChangeShapes Go.WideShapes Go.ChangeAt Go.RowKit Go.Joins
open Go.ChangeMaps (open_string)

theorem open_arr2 {H : Type} {enc : TypeId × Value → H} {P : Program} {w : World} {base : Nat} {t e : TypeId} {v : Value} {d : DataW H} {p : List MemPlace}
    (ht : P.underlying t = some (.array 2 e)) (he : P.underlying e = some (.int .i64)) (hc : P.cellsOf e = 1) (hC : P.cellsOf t = 2)
    (hok : Value.okWide P w .any base t v) (h : DataW.Trod enc P w 0 (fun _ => true) true t v d p) :
    ∃ a b : Int, v = .agg #[.int .i64 a, .int .i64 b] ∧ (Lit.int .i64 a).wf = true ∧ (Lit.int .i64 b).wf = true := by
  simp only [Value.okWide, ht] at hok
  obtain ⟨cs, rfl, hsz, _⟩ := hok
  obtain ⟨l⟩ := cs
  match l, hsz.trans hC with
  | [c0, c1], _ =>
    obtain ⟨fuel, hf⟩ := h
    obtain ⟨xs, m, _, _, _, hlen, hg⟩ := DataW.trod_array ht hf
    match xs, hlen with
    | [y0, y1], _ =>
      obtain ⟨a, e0, _, wa⟩ := DataW.trod_int he (by simpa [Value.cells, hc] using hg 0 (by omega))
      obtain ⟨b, e1, _, wb⟩ := DataW.trod_int he (by simpa [Value.cells, hc] using hg 1 (by omega))
      simp at e0 e1
      subst e0 e1
      exact ⟨a, b, rfl, wa, wb⟩
theorem pageOthers_holds : Rows.PageOthersCardSaid := pageOthersFrame.card_of_walk (by
  intro H enc W base v0 v1 v2 d0 d1 d2 p0 p1 p2 k0 h0 k1 h1 k2 h2 hL
  obtain ⟨p, rfl, _, _, hm⟩ := open_string Tryd.underlying9 k0 h0
  obtain ⟨a, b, rfl, wa, wb⟩ := open_arr2 Tryd.underlying36 Tryd.underlying3 (by kernel_rfl) (by kernel_rfl) k1 h1
  obtain ⟨r, rfl, _, _, hmr⟩ := open_string Tryd.underlying9 k2 h2
  by_cases hp : p.size ≤ 600
  · by_cases hr : r.size ≤ 600
    · by_cases hb : b < 0
      · exact others_neg p a b r W (tabW_of hL) hp hr hb
      · by_cases hb2 : 1073741824 < b
        · exact others_far p a b r W (tabW_of hL) hp hr hb2
        · exact others_w p a b r W (tabW_of hL) hp hr ⟨by omega, by omega⟩
    · exact others_big2 p a b r W (tabW_of hL) hp (by omega)
  · exact others_big p a b r W (tabW_of hL) (by omega))
end Go.Proofs.YtfdedkcidemimaaDoor

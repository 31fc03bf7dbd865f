/- Pages: Free. -/
import Derived.Test.YtfdedkcidemimaaDoorPgY
namespace Go.Proofs.YtfdedkcidemimaaDoor
set_option linter.unusedVariables false
set_option linter.unusedSimpArgs false
open Go.ChangeShapes Go.WideShapes Go.ChangeAt Go.RowKit

theorem sumS_le {l : List ByteArray} (h : ∀ r ∈ l, r.size ≤ 512) : sumS l ≤ 512 * l.length := by
  induction l with
  | nil => simp [sumS]
  | cons a l ih =>
    have h1 := h a (by simp)
    have h2 := ih (fun r hr => h r (by simp [hr]))
    simp only [sumS, List.length_cons]
    omega
theorem readC_len (p : ByteArray) : (readC p).recs.length = shN p 15 := by unfold readC; simp
theorem readC_size {p : ByteArray} (R : RightP p) : sizeN (readC p).recs ≤ 100000 := by
  have h1 : sumS (readC p).recs ≤ 512 * (readC p).recs.length := by
    apply sumS_le
    intro r hr
    unfold readC at hr
    obtain ⟨i, _, rfl⟩ := List.mem_map.1 hr
    unfold recAt
    rw [ByteArray.size_extract, R.size]
    omega
  have h2 := readC_len p
  have h3 := R.gap
  have h4 := R.beg
  unfold sizeN
  rw [h2] at h1 ⊢
  omega
def freeS (p : ByteArray) : Int := if rightB p then freeI (readC p).recs else 0
theorem freepage_c (p : ByteArray) (hm : p.size ≤ 4000) (w : World) : Calls Tryd.prog 22 #[.string p] w fun e w' => e = .returned (.int .i64 (freeS p)) ∧ Below w.heap.size w w' := by
  unfold freeS
  cases hr : rightB p with
  | false =>
    have Q := hide (right_q p hm hr)
    clear hr
    go_enter Tryd.func22, Tryd.ntmps22
    go_wp2_with fail
    refine (Q.out _).mono ?_
    rintro e w4 ⟨rfl, hb⟩
    go_wp2_with fail
    go_ret
    exact ⟨rfl, hb⟩
  | true =>
    have Q := hide (right_q p hm hr)
    have R := (rightP_iff p).mp hr
    have Q2 := hide (fun W => read_c p hm R W)
    have hn : (readC p).recs.length ≤ 1048576 := by rw [readC_len]; have := R.gap; have := R.beg; omega
    rw [if_pos rfl]
    generalize readC p = C at *
    obtain ⟨x, y, z, l⟩ := C
    dsimp only at hn ⊢
    have Q3 := hide (fun A c W hW => free_c x y z A l.length c l W hW hn)
    generalize freeI l = F at *
    clear hr R
    go_enter Tryd.func22, Tryd.ntmps22
    go_wp2_with fail
    refine (Q.out _).mono ?_
    rintro e w4 ⟨rfl, hb⟩
    have HB := hide hb
    clear hb
    go_wp2_with fail
    refine (Q2.out _).mono ?_
    rintro e w5 ⟨v, rfl, hown, hb⟩
    replace HB := hide (Bel.then HB.out hb)
    clear hb
    obtain ⟨A, c, rfl, hs⟩ := hown.sl
    have HS := hide hs
    clear hown hs
    go_wp2_with fail
    refine (Q3.out _ _ _ HS.out).mono ?_
    rintro e w6 ⟨rfl, hb⟩
    replace HB := hide (Bel.then HB.out hb)
    clear hb
    go_wp2_with fail
    go_ret
    exact ⟨rfl, HB.out⟩
end Go.Proofs.YtfdedkcidemimaaDoor

/- Pages of the reference: Right, parts, Kind, Lsn, Link, Slots, New, SetLsn, SetLink. -/
import Derived.Test.YtfdedkcidemimaaDoorPrE
import Derived.Test.YtfdedkcidemimaaDoorPmF
namespace Go.Proofs.YtfdedkcidemimaaDoor
set_option linter.unusedVariables false
set_option linter.unusedSimpArgs false
open Go.ChangeShapes Go.WideShapes Go.ChangeAt Go.RowKit

theorem rright_c (p : ByteArray) (hm : p.size ≤ 4000) (w : World) : Calls Tryd.prog 13 #[.string p] w fun e w' => e = .returned (.bool (rightB p)) ∧ Below w.heap.size w w' := by
  have Q := hide (fun W => parts_c p hm W)
  unfold GivesP at Q
  generalize rightB p = r at *
  go_enter Tryd.func13, Tryd.ntmps13
  go_wp2_with fail
  refine (Q.out _).mono ?_
  rintro e w2 ⟨x, y, z, A, n, cp, rfl, hb, _⟩
  go_wp2_with fail
  go_ret
  exact ⟨rfl, hb.alloc hb.size _⟩
/-- What the reference's parts gives. -/
def GivesQ (w : World) (C : CtV) (e : Ending) (w' : World) : Prop := ∃ A n cp, e = .returned (.agg #[.int .i64 C.lsn, .int .i64 C.kind, .int .i64 C.link, .slice A n cp]) ∧ Below w.heap.size w w' ∧ n = C.recs.length ∧ OwnS w' w.heap.size (.slice A n cp) C.recs
set_option maxRecDepth 100000 in
theorem rparts_c (p : ByteArray) (hm : p.size ≤ 4000) (w : World) : Calls Tryd.prog 49 #[.string p] w (GivesQ w (qC p)) := by
  have Q := hide (fun W => parts_c p hm W)
  unfold GivesP at Q
  have HX0 := hide (pbx_new w 0 0 0 (.slice none 0 0))
  have HB0 := hide (Bel.one w (.cells #[.int .i64 0, .int .i64 0, .int .i64 0, .slice none 0 0] 46))
  obtain ⟨C, hC⟩ : ∃ C, qC p = C := ⟨_, rfl⟩
  rw [hC]
  unfold qC at hC
  cases hr : rightB p with
  | false =>
    rw [hr] at hC Q
    have hC2 : ⟨0, 0, 0, []⟩ = C := hC
    subst hC2
    clear hr hC
    go_enter Tryd.func49, Tryd.ntmps49
    go_upto_region 1 with (fail)
    generalize w.alloc (.cells #[.int .i64 0, .int .i64 0, .int .i64 0, .slice none 0 0] 46) = w1 at *
    go_wp2_with fail
    refine (Q.out _).mono ?_
    rintro e w2 ⟨x, y, z, A, n, cp, rfl, hb, _⟩
    have HX2 := hide ((HX0.out.kept hb).alloc (.cells #[.int .i64 x, .int .i64 y, .int .i64 z, .slice A n cp] 46))
    have HB2 := hide ((Bel.then HB0.out hb).alloc (Bel.then HB0.out hb).size (.cells #[.int .i64 x, .int .i64 y, .int .i64 z, .slice A n cp] 46))
    clear hb HX0 HB0
    go_upto_region 2 with (fail)
    generalize w2.alloc (.cells #[.int .i64 x, .int .i64 y, .int .i64 z, .slice A n cp] 46) = w3 at *
    obtain ⟨c0, c1, c2, c3, f0, f1, f2, f3⟩ := HX2.out.cells
    go_wp2_with fail
    refine end_pt Tryd.results49 rfl rfl (HX2.out.set4 0 0 0 (.slice none 0 0)) ?_
    exact ⟨none, 0, 0, rfl, pbelow_set4 HB2.out (Nat.le_refl _) _ _ _ _, rfl, own_nil _ _⟩
  | true =>
    rw [hr] at hC Q
    have hC2 : readC p = C := hC
    subst hC2
    generalize readC p = C at *
    obtain ⟨x, y, z, l⟩ := C
    dsimp only at Q
    clear hr hC
    go_enter Tryd.func49, Tryd.ntmps49
    go_upto_region 1 with (fail)
    generalize w.alloc (.cells #[.int .i64 0, .int .i64 0, .int .i64 0, .slice none 0 0] 46) = w1 at *
    go_wp2_with fail
    refine (Q.out _).mono ?_
    rintro e w2 ⟨x', y', z', A, n', cp, rfl, hb, hall⟩
    obtain ⟨hx1, hx2, hx3, hx4, hown⟩ := hall (by trivial)
    subst x' y' z' n'
    have HX2 := hide ((HX0.out.kept hb).alloc (.cells #[.int .i64 x, .int .i64 y, .int .i64 z, .slice A l.length cp] 46))
    have HG2 := hide (pbx_new w2 x y z (.slice A l.length cp))
    have HB2 := hide ((Bel.then HB0.out hb).alloc (Bel.then HB0.out hb).size (.cells #[.int .i64 x, .int .i64 y, .int .i64 z, .slice A l.length cp] 46))
    have HO2 := hide ((hown.more HB0.out.size).kept (Bel.one w2 (.cells #[.int .i64 x, .int .i64 y, .int .i64 z, .slice A l.length cp] 46)))
    clear hb HX0 HB0 hown hall
    go_upto_region 2 with (fail)
    generalize w2.alloc (.cells #[.int .i64 x, .int .i64 y, .int .i64 z, .slice A l.length cp] 46) = w3 at *
    generalize w2.heap.size = g2 at *
    obtain ⟨c0, c1, c2, c3, f0, f1, f2, f3⟩ := HX2.out.cells
    obtain ⟨d0, d1, d2, d3, y0, y1, y2, y3⟩ := HG2.out.cells
    have HO3 := hide (HO2.out.pfar4 HX2.out x y z (.slice A l.length cp))
    go_wp2_with fail
    refine end_pt Tryd.results49 rfl rfl (HX2.out.set4 x y z (.slice A l.length cp)) ?_
    exact ⟨A, _, cp, rfl, pbelow_set4 HB2.out (Nat.le_refl _) _ _ _ _, rfl, HO3.out⟩
theorem fld0 (x y z : Int) (v : Value) (W : World) : (Instr.field 46 (.agg #[.int .i64 x, .int .i64 y, .int .i64 z, v]) 0).run Tryd.prog W = .ok (.int .i64 x) W := by kernel_rfl
theorem fld1 (x y z : Int) (v : Value) (W : World) : (Instr.field 46 (.agg #[.int .i64 x, .int .i64 y, .int .i64 z, v]) 1).run Tryd.prog W = .ok (.int .i64 y) W := by kernel_rfl
theorem fld2 (x y z : Int) (v : Value) (W : World) : (Instr.field 46 (.agg #[.int .i64 x, .int .i64 y, .int .i64 z, v]) 2).run Tryd.prog W = .ok (.int .i64 z) W := by kernel_rfl
theorem fld3 (x y z : Int) (v : Value) (W : World) : (Instr.field 46 (.agg #[.int .i64 x, .int .i64 y, .int .i64 z, v]) 3).run Tryd.prog W = .ok v W := by kernel_rfl
theorem rkind_c (p : ByteArray) (hm : p.size ≤ 4000) (w : World) : Calls Tryd.prog 15 #[.string p] w fun e w' => e = .returned (.int .i64 (kindS p)) ∧ Below w.heap.size w w' := by
  have Q := hide (fun W => rparts_c p hm W)
  rw [kindS_q]
  generalize qC p = C at *
  obtain ⟨x, y, z, l⟩ := C
  unfold GivesQ at Q
  dsimp only at Q ⊢
  have hf0 := fld0
  have hf1 := fld1
  have hf2 := fld2
  have hf3 := fld3
  go_enter Tryd.func15, Tryd.ntmps15
  go_wp2_with fail
  refine (Q.out _).mono ?_
  rintro e w2 ⟨A, n, cp, rfl, hb, _, _⟩
  go_wp2_with fail
  go_ret
  exact ⟨rfl, hb⟩
theorem rlsn_c (p : ByteArray) (hm : p.size ≤ 4000) (w : World) : Calls Tryd.prog 17 #[.string p] w fun e w' => e = .returned (.int .i64 (lsnS p)) ∧ Below w.heap.size w w' := by
  have Q := hide (fun W => rparts_c p hm W)
  rw [lsnS_q]
  generalize qC p = C at *
  obtain ⟨x, y, z, l⟩ := C
  unfold GivesQ at Q
  dsimp only at Q ⊢
  have hf0 := fld0
  have hf1 := fld1
  have hf2 := fld2
  have hf3 := fld3
  go_enter Tryd.func17, Tryd.ntmps17
  go_wp2_with fail
  refine (Q.out _).mono ?_
  rintro e w2 ⟨A, n, cp, rfl, hb, _, _⟩
  go_wp2_with fail
  go_ret
  exact ⟨rfl, hb⟩
theorem rlink_c (p : ByteArray) (hm : p.size ≤ 4000) (w : World) : Calls Tryd.prog 19 #[.string p] w fun e w' => e = .returned (.int .i64 (linkS p)) ∧ Below w.heap.size w w' := by
  have Q := hide (fun W => rparts_c p hm W)
  rw [linkS_q]
  generalize qC p = C at *
  obtain ⟨x, y, z, l⟩ := C
  unfold GivesQ at Q
  dsimp only at Q ⊢
  have hf0 := fld0
  have hf1 := fld1
  have hf2 := fld2
  have hf3 := fld3
  go_enter Tryd.func19, Tryd.ntmps19
  go_wp2_with fail
  refine (Q.out _).mono ?_
  rintro e w2 ⟨A, n, cp, rfl, hb, _, _⟩
  go_wp2_with fail
  go_ret
  exact ⟨rfl, hb⟩
theorem rslots_c (p : ByteArray) (hm : p.size ≤ 4000) (w : World) : Calls Tryd.prog 21 #[.string p] w fun e w' => e = .returned (.int .i64 (slotsS p)) ∧ Below w.heap.size w w' := by
  have Q := hide (fun W => rparts_c p hm W)
  rw [slotsS_q]
  generalize qC p = C at *
  obtain ⟨x, y, z, l⟩ := C
  unfold GivesQ at Q
  dsimp only at Q ⊢
  have hf0 := fld0
  have hf1 := fld1
  have hf2 := fld2
  have hf3 := fld3
  go_enter Tryd.func21, Tryd.ntmps21
  go_wp2_with fail
  refine (Q.out _).mono ?_
  rintro e w2 ⟨A, n, cp, rfl, hb, rfl, _⟩
  go_wp2_with fail
  go_ret
  exact ⟨rfl, hb⟩
theorem rnew_c (k : Int) (w : World) : Calls Tryd.prog 31 #[.int .i64 k] w fun e w' => e = .returned (.string (newS k)) ∧ Below w.heap.size w w' := by
  by_cases h0 : k < 0
  · have hv : newS k = ⟨#[]⟩ := by unfold newS; rw [if_neg (by omega)]
    rw [hv]
    clear hv
    go_enter Tryd.func31, Tryd.ntmps31
    go_wp2_with fail
    go_ret
    exact ⟨rfl, Below.refl _ _⟩
  · by_cases h1 : 4 < k
    · have hv : newS k = ⟨#[]⟩ := by unfold newS; rw [if_neg (by omega)]
      rw [hv]
      clear hv
      go_enter Tryd.func31, Tryd.ntmps31
      go_wp2_with fail
      go_ret
      exact ⟨rfl, Below.refl _ _⟩
    · have hv : newS k = layR ⟨0, k, 0, []⟩ := by rw [layR_ok (new_lay ⟨by omega, by omega⟩)]; unfold newS; rw [if_pos ⟨by omega, by omega⟩]
      rw [hv]
      have Q := hide (fun W => rlay_c 0 k 0 none 0 0 [] W (SlAt.empty stC 1 W W.heap.size) (by decide) ⟨by omega, by omega⟩)
      generalize layR ⟨0, k, 0, []⟩ = R at *
      clear hv
      go_enter Tryd.func31, Tryd.ntmps31
      go_wp2_with fail
      refine (Q.out _).mono ?_
      rintro e w4 ⟨rfl, hb⟩
      go_wp2_with fail
      go_ret
      exact ⟨rfl, hb⟩
end Go.Proofs.YtfdedkcidemimaaDoor

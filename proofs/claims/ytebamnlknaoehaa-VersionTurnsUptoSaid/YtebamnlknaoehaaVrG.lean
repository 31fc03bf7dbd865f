/- The walk of awake, for versions. -/
import Derived.Test.YtebamnlknaoehaaVrF
namespace Go.Proofs.Ytebamnlknaoehaa
set_option linter.unusedVariables false
open Go.ChangeShapes Go.WideShapes Go.ChangeAt Go.RowKit

def awV : List ValV := [⟨1, 1, .empty⟩]
theorem av_put : putVG 1 2 5 awV = (0, [0, 0, 0, 0, 0, 1, 0, 0, 0, 0, 0, 2, 0, 0, 0, 0, 0, 5, 1, 1, 1]) := by decide +kernel
theorem av_ok : OkVer 1 2 5 awV := by
  rcases putVG_cases 1 2 5 awV with ⟨h, _⟩ | ⟨_, h, _⟩
  · exact h
  · rw [av_put] at h; exact absurd rfl h
theorem av_get : getVG [0, 0, 0, 0, 0, 1, 0, 0, 0, 0, 0, 2, 0, 0, 0, 0, 0, 5, 1, 1, 1] = ⟨0, 1, 2, 5, awV⟩ := by
  have h := getV_put av_ok
  have h2 : headG 1 2 5 ++ bytesR awV = [0, 0, 0, 0, 0, 1, 0, 0, 0, 0, 0, 2, 0, 0, 0, 0, 0, 5, 1, 1, 1] := by decide +kernel
  rw [h2] at h
  exact h
theorem av_put2 : putVG 0 (-1) 0 [] = (1, []) := by decide +kernel
theorem av_get2 : getVG [120] = ⟨3, 0, 0, 0, []⟩ := rfl
theorem av_okv : ∀ a ∈ awV, OkV a := by
  intro a ha
  simp only [awV, List.mem_cons, List.not_mem_nil, or_false] at ha
  subst ha
  exact ⟨⟨by decide, by decide⟩, by decide⟩
theorem av_strs : StrsOk awV := by
  intro a ha
  simp only [awV, List.mem_cons, List.not_mem_nil, or_false] at ha
  subst ha
  decide
theorem av_lit (w : World) : RowAt (w.alloc (.cells #[.int .i64 1, .int .i64 1, .string .empty] 49)) (w.alloc (.cells #[.int .i64 1, .int .i64 1, .string .empty] 49)).heap.size (some ⟨w.heap.size, 0, none⟩) 1 1 awV :=
  sl_lit w _ 49 rfl valCells_len rfl (by unfold maxLen; omega)
theorem held_lit (w : World) (A : Option Addr) (n k : Nat) (r : List ValV) (a b c : Int) (h : RowAt w w.heap.size A n k r) : HeldsAt (w.alloc (.cells #[.int .i64 a, .int .i64 b, .int .i64 c, .slice A n k, .int .i64 0, .int .i64 0] 40)) (w.alloc (.cells #[.int .i64 a, .int .i64 b, .int .i64 c, .slice A n k, .int .i64 0, .int .i64 0] 40)).heap.size (some ⟨w.heap.size, 0, none⟩) 1 1 [(⟨a, b, c, A, n, k, 0, 0⟩, r)] := by
  refine ⟨sl_lit w _ 40 rfl hpCells_len rfl (by unfold maxLen; omega), ?_⟩
  intro p hp
  simp only [List.mem_cons, List.not_mem_nil, or_false] at hp
  subst hp
  exact h.kept (Bel.one _ _)
set_option maxRecDepth 100000 in
set_option maxHeartbeats 1000000 in
theorem awakeV_c (w : World) : Calls Try.prog 8 #[] w fun e w' => e = .returned (.bool true) ∧ Below w.heap.size w w' := by
  have Q1 := hide (fun W => bool_c true W)
  have QP := hide (fun (W : World) (A : Option Addr) (h : RowAt W W.heap.size A 1 1 awV) => vput_c 1 2 5 A 1 1 awV W h (by omega) av_okv)
  rw [av_put] at QP
  have QG := hide (fun W => vget_c { data := #[0, 0, 0, 0, 0, 1, 0, 0, 0, 0, 0, 2, 0, 0, 0, 0, 0, 5, 1, 1, 1] } W (by decide))
  rw [show getVG (ByteArray.mk #[0, 0, 0, 0, 0, 1, 0, 0, 0, 0, 0, 2, 0, 0, 0, 0, 0, 5, 1, 1, 1]).data.toList = ⟨0, 1, 2, 5, awV⟩ from av_get] at QG
  have QP2 := hide (fun (W : World) => vput_c 0 (-1) 0 none 0 0 [] W (SlAt.empty _ _ _ _) (by omega) (by simp))
  rw [av_put2] at QP2
  have QG2 := hide (fun W => vget_c { data := #[120] } W (by decide))
  rw [show getVG (ByteArray.mk #[120]).data.toList = ⟨3, 0, 0, 0, []⟩ from av_get2] at QG2
  have QS := hide (fun (W : World) (A A2 : Option Addr) (k2 : Nat) (h : RowAt W W.heap.size A 1 1 awV) (h2 : RowAt W W.heap.size A2 1 k2 awV) => same_c 1 2 5 1 2 5 A A2 1 1 1 k2 awV awV W h h2 av_strs av_strs)
  rw [cmpR_refl, show sameG 1 2 5 1 2 5 0 = true by decide] at QS
  have QE1 := hide (fun (W : World) (A : Option Addr) => seen_c 1 2 5 2 A 1 1 W)
  have QE2 := hide (fun (W : World) (A : Option Addr) => seen_c 1 2 5 5 A 1 1 W)
  have QO1 := hide (fun (W : World) (A : Option Addr) => old_c 1 2 5 5 A 1 1 W)
  have QO2 := hide (fun (W : World) (A : Option Addr) => old_c 1 2 5 4 A 1 1 W)
  rw [show seenG 2 5 2 = true by decide] at QE1
  rw [show seenG 2 5 5 = false by decide] at QE2
  rw [show oldG 5 5 = true by decide] at QO1
  rw [show oldG 5 4 = false by decide] at QO2
  unfold verAgg at QP QP2 QS QE1 QE2 QO1 QO2
  go_enter Try.func8, Try.ntmps8
  go_wp2_with fail
  refine (Q1.out _).mono ?_
  rintro e w1 ⟨rfl, hb⟩
  have HB1 := hide hb
  clear hb Q1
  unfold valAgg
  go_wp2_with fail
  -- the version, in a box of its own
  have hrow := (av_lit w1).kept (Bel.one _ (.cells #[.int .i64 1, .int .i64 2, .int .i64 5, .slice (some ⟨w1.heap.size, 0, none⟩) 1 1] 25))
  have hv := vb_new (w1.alloc (.cells #[.int .i64 1, .int .i64 1, .string .empty] 49)) 1 2 5 (some ⟨w1.heap.size, 0, none⟩) 1 1
  have HB2 := hide (Bel.alloc (Bel.alloc HB1.out (.cells #[.int .i64 1, .int .i64 1, .string .empty] 49)) (.cells #[.int .i64 1, .int .i64 2, .int .i64 5, .slice (some ⟨w1.heap.size, 0, none⟩) 1 1] 25))
  rw [World.size_alloc] at hv
  have HROW := hide hrow
  have HV := hide hv
  clear hrow hv HB1
  refine (QP.out _ _ HROW.out).mono ?_
  rintro e w2 ⟨rfl, hb⟩
  have HROW2 := hide (HROW.out.kept hb)
  have HV2 := hide (HV.out.kept hb)
  have HB3 := hide (Bel.then HB2.out hb)
  generalize w1.heap.size = g at *
  clear hb HROW HV HB2 QP
  unfold strL
  go_wp2_with fail
  refine (QG.out _).mono ?_
  rintro e w3 ⟨A3, k3, rfl, hr3, hb⟩
  have HROW3 := hide (HROW2.out.kept hb)
  have HV3 := hide (HV2.out.kept hb)
  have HB4 := hide (Bel.then HB3.out hb)
  simp only at hr3
  have HR3 := hide (hr3.kept (Bel.one w3 (.cells #[.int .i64 1, .int .i64 2, .int .i64 5, .slice A3 1 k3] 25)))
  have HX3 := hide (vb_new w3 1 2 5 A3 1 k3)
  clear hb HROW2 HV2 HB3 QG hr3
  unfold verAgg
  simp only [awV, List.length_cons, List.length_nil, Nat.zero_add]
  go_wp2_with fail
  have HROW4 := hide (HROW3.out.kept (Bel.one w3 (.cells #[.int .i64 1, .int .i64 2, .int .i64 5, .slice A3 1 k3] 25)))
  have HV4 := hide (HV3.out.kept (Bel.one w3 (.cells #[.int .i64 1, .int .i64 2, .int .i64 5, .slice A3 1 k3] 25)))
  have HB5 := hide (Bel.alloc HB4.out (.cells #[.int .i64 1, .int .i64 2, .int .i64 5, .slice A3 1 k3] 25))
  clear HROW3 HV3 HB4
  refine (QP2.out _).mono ?_
  rintro e w4 ⟨rfl, hb⟩
  have HROW5 := hide (HROW4.out.kept hb)
  have HV5 := hide (HV4.out.kept hb)
  have HR5 := hide (HR3.out.kept hb)
  have HX5 := hide (HX3.out.kept hb)
  have HB6 := hide (Bel.then HB5.out hb)
  clear hb HROW4 HV4 HR3 HX3 HB5 QP2
  generalize w3.heap.size = g3 at *
  go_wp2_with fail
  refine (QG2.out _).mono ?_
  rintro e w5 ⟨A5, k5, rfl, _, hb⟩
  unfold verAgg
  simp only [List.length_nil]
  have hb2 := Bel.then hb (Bel.one w5 (.cells #[.int .i64 0, .int .i64 0, .int .i64 0, .slice A5 0 k5] 25))
  have HROW6 := hide (HROW5.out.kept hb2)
  have HV6 := hide (HV5.out.kept hb2)
  have HR6 := hide (HR5.out.kept hb2)
  have HX6 := hide (HX5.out.kept hb2)
  have HB7 := hide (Bel.then HB6.out hb2)
  clear hb hb2 HROW5 HV5 HR5 HX5 HB6 QG2
  obtain ⟨⟨k0, k1, k2, k3'⟩, _⟩ := HV6.out.all
  obtain ⟨⟨l0, l1, l2, l3⟩, _⟩ := HX6.out.all
  go_wp2_with fail
  refine (QS.out _ _ _ _ HROW6.out HR6.out).mono ?_
  rintro e w7 ⟨rfl, hb⟩
  have HROW7 := hide (HROW6.out.kept hb)
  have HV7 := hide (HV6.out.kept hb)
  have HB8 := hide (Bel.then HB7.out hb)
  clear hb HROW6 HV6 HB7 k0 k1 k2 k3' l0 l1 l2 l3 QS
  obtain ⟨⟨k0, k1, k2, k3'⟩, _⟩ := HV7.out.all
  go_wp2_with fail
  refine (QE1.out _ _).mono ?_
  rintro e w8 ⟨rfl, hb⟩
  have HROW8 := hide (HROW7.out.kept hb)
  have HV8 := hide (HV7.out.kept hb)
  have HB9 := hide (Bel.then HB8.out hb)
  clear hb HROW7 HV7 HB8 k0 k1 k2 k3' QE1
  obtain ⟨⟨k0, k1, k2, k3'⟩, _⟩ := HV8.out.all
  go_wp2_with fail
  refine (QE2.out _ _).mono ?_
  rintro e w9 ⟨rfl, hb⟩
  have HROW9 := hide (HROW8.out.kept hb)
  have HV9 := hide (HV8.out.kept hb)
  have HB10 := hide (Bel.then HB9.out hb)
  clear hb HROW8 HV8 HB9 k0 k1 k2 k3' QE2
  obtain ⟨⟨k0, k1, k2, k3'⟩, _⟩ := HV9.out.all
  go_wp2_with fail
  refine (QO1.out _ _).mono ?_
  rintro e w10 ⟨rfl, hb⟩
  have HROW10 := hide (HROW9.out.kept hb)
  have HV10 := hide (HV9.out.kept hb)
  have HB11 := hide (Bel.then HB10.out hb)
  clear hb HROW9 HV9 HB10 k0 k1 k2 k3' QO1
  obtain ⟨⟨k0, k1, k2, k3'⟩, _⟩ := HV10.out.all
  go_wp2_with fail
  refine (QO2.out _ _).mono ?_
  rintro e w11 ⟨rfl, hb⟩
  have HROW11 := hide (HROW10.out.kept hb)
  have HV11 := hide (HV10.out.kept hb)
  have HB12 := hide (Bel.then HB11.out hb)
  clear hb HROW10 HV10 HB11 k0 k1 k2 k3' QO2
  obtain ⟨⟨k0, k1, k2, k3'⟩, _⟩ := HV11.out.all
  go_wp2_with fail
  have QK := hide (pick_c _ 1 1 4 _ _ (held_lit w11 (some ⟨g, 0, none⟩) 1 1 awV 1 2 5 HROW11.out) (by omega) (by simp))
  refine QK.out.mono ?_
  rintro e w12 ⟨A12, c12, qs, rfl, _, hb, hkey⟩
  have hlen : qs.length = 1 := by
    have := congrArg List.length hkey
    rw [List.length_map, List.length_map] at this
    rw [this]
    rfl
  have HB13 := hide (Bel.then (Bel.alloc HB12.out _) hb)
  clear hb QK k0 k1 k2 k3' HV11 HROW11 HB12
  go_wp2_with fail
  go_ret
  exact ⟨rfl, HB13.out⟩
end Go.Proofs.Ytebamnlknaoehaa

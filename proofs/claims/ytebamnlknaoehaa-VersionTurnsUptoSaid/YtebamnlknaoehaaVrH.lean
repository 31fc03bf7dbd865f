/- The walk of VersionBytes. -/
import Derived.Test.YtebamnlknaoehaaVrG
namespace Go.Proofs.Ytebamnlknaoehaa
set_option linter.unusedVariables false
open Go.ChangeShapes Go.WideShapes Go.ChangeAt Go.RowKit

def longV (v : ValV) : Bool := decide (300 < v.str.size)
def overG (r : List ValV) : Bool := r.any longV || decide (60 < r.length)
theorem any_on {r : List ValV} {k : Nat} {v : ValV} (h : r[k]? = some v) (ha : (r.take k).any longV = false) (hv : ¬ 300 < v.str.size) : (r.take (k + 1)).any longV = false := by
  rw [take_at h, List.any_append, ha]
  simp [longV]
  omega
theorem any_yes {r : List ValV} {k : Nat} {v : ValV} (h : r[k]? = some v) (hv : 300 < v.str.size) : overG r = true := by
  have : r.any longV = true := List.any_eq_true.2 ⟨v, List.mem_of_getElem? h, by simpa [longV] using hv⟩
  unfold overG
  rw [this]
  rfl
theorem over_c (A : Option Addr) (n c : Nat) (r : List ValV) (w : World) (h : RowAt w w.heap.size A n c r) (hn : n ≤ 1048576) : Calls Try.prog 7 #[.slice A n c] w fun e w' => e = .returned (.bool (overG r)) ∧ w = w' := by
  have H := hide h
  have HL := hide h.len
  clear h
  go_enter Try.func7, Try.ntmps7
  go_wp2_with fail
  go_loop [3] (fun i => ∃ k : Nat, k ≤ n ∧ i = .int .i64 k ∧ Hid ((r.take k).any longV = false)) (fun i => n - (intOf i).toNat)
  case atStart => exact ⟨0, Nat.zero_le _, rfl, rfl⟩
  case round =>
    obtain ⟨k, hk, rfl, HT⟩ := hrel
    by_cases hlt : k < n
    · obtain ⟨b, off, v, rfl, hb, hv, hc0, hc1, hc2⟩ := RowAt.val H.out hlt
      by_cases h3 : 300 < v.str.size
      · have HY := hide (any_yes hv h3)
        clear hv
        obtain ⟨vk, vn, vs⟩ := v
        simp only at hc0 hc1 hc2 h3
        go_wp2
        go_ret
        exact ⟨ret_bool HY.out.symm, rfl⟩
      · have HT2 := hide (any_on hv HT.out h3)
        clear hv HT
        obtain ⟨vk, vn, vs⟩ := v
        simp only at hc0 hc1 hc2 h3
        go_wp2
        go_round
        case rel => exact ⟨k + 1, by omega, by go_num, HT2⟩
        case measure => simp [intOf]; omega
    · obtain rfl : k = n := by omega
      have hany := HT.out
      rw [← HL.out, List.take_length] at hany
      have HG := hide (show overG r = decide (60 < r.length) by unfold overG; rw [hany]; rfl)
      clear hany HT
      by_cases h60 : 60 < k
      · go_wp2
        go_ret
        exact ⟨ret_bool (by rw [HG.out, HL.out]; simp; try omega), rfl⟩
      · go_wp2
        go_ret
        exact ⟨ret_bool (by rw [HG.out, HL.out]; simp; try omega), rfl⟩
theorem getV_strs (l : List UInt8) : StrsOk (getVG l).data := by
  rcases getV_err l with h | ⟨_, h⟩
  · obtain ⟨ho, _⟩ := getV_back (l := l) (a := (getVG l).row) (b := (getVG l).frm) (c := (getVG l).too) (r := (getVG l).data) (by rw [← h])
    intro v hv
    have hr := List.all_eq_true.1 ho.row.right v hv
    rcases right_kinds hr with rfl | rfl | rfl | ⟨n, rfl, hn⟩ | ⟨s, rfl, hs⟩
    · decide
    · decide
    · decide
    · show (ByteArray.empty).size ≤ _; decide
    · have := (plain_iff.1 hs).1; show s.size ≤ _; omega
  · rw [h]; intro v hv; cases hv
theorem same_self (a b c : Int) : sameG a b c a b c 0 = true := by simp [sameG]
set_option maxRecDepth 100000 in
set_option maxHeartbeats 1000000 in
theorem bytes_w (a b c : Int) (A : Option Addr) (n k : Nat) (r : List ValV) (s : ByteArray) (w : World) (h : RowAt w w.heap.size A n k r) (hn : n ≤ 1048576) (hr : ∀ a ∈ r, OkV a) (hm : s.size ≤ 1048576) :
    Calls Try.prog 3 #[verAgg a b c A n k, .string s] w fun e w' => e = .returned (.bool true) ∧ Below w.heap.size w w' := by
  have QA := hide (fun W => awakeV_c W)
  have QO := hide (fun (W : World) (hW : Below w.heap.size w W) => over_c A n k r W (h.kept hW) hn)
  have QP := hide (fun (W : World) (hW : Below w.heap.size w W) => vput_c a b c A n k r W (h.kept hW) hn hr)
  have QR := hide (fun (W : World) (hW : Below w.heap.size w W) => rvput_c a b c A n k r W (h.kept hW) hn hr)
  have QG := hide (fun W => vget_c s W hm)
  have QH := hide (fun W => rvget_c s W hm)
  have hst := getV_strs s.data.toList
  generalize putVG a b c r = x at *
  generalize getVG s.data.toList = y at *
  have QS := hide (fun (W : World) (A1 A2 : Option Addr) (k1 k2 : Nat) (h1 : RowAt W W.heap.size A1 y.data.length k1 y.data) (h2 : RowAt W W.heap.size A2 y.data.length k2 y.data) => same_c y.row y.frm y.too y.row y.frm y.too A1 A2 y.data.length k1 y.data.length k2 y.data y.data W h1 h2 hst hst)
  rw [cmpR_refl, same_self] at QS
  obtain ⟨x1, x2⟩ := x
  obtain ⟨ye, yr, yf, yt, yd⟩ := y
  unfold GivesP at QP QR
  simp only at QP QR QS
  generalize strL x2 = t at *
  unfold verAgg at QP QR QS ⊢
  clear h hr hst
  have HV := hide (vb_new w a b c A n k)
  cases ho : overG r
  · rw [ho] at QO
    by_cases h6 : s.size ≤ 600
    · go_enter Try.func3, Try.ntmps3
      go_wp2_with fail
      refine (QO.out _ (Bel.one _ _)).mono ?_
      rintro e w1 ⟨rfl, rfl⟩
      go_wp2_with fail
      refine (QP.out _ (Bel.one _ _)).mono ?_
      rintro e w1 ⟨rfl, hb⟩
      have HV1 := hide (HV.out.kept hb)
      have HB1 := hide (Bel.then (Bel.one w _) hb)
      clear hb QP HV
      obtain ⟨⟨k0, k1, k2, k3⟩, _⟩ := HV1.out.all
      go_wp2_with fail
      refine (QR.out _ HB1.out).mono ?_
      rintro e w2 ⟨rfl, hb⟩
      have HB2 := hide (Bel.then HB1.out hb)
      clear hb QR HV1 HB1 k0 k1 k2 k3
      go_wp2_with fail
      refine (QG.out _).mono ?_
      rintro e w3 ⟨A3, k3, rfl, hr3, hb⟩
      simp only at hr3
      unfold verAgg
      have HR3 := hide (hr3.kept (Bel.one w3 (.cells #[.int .i64 yr, .int .i64 yf, .int .i64 yt, .slice A3 yd.length k3] 25)))
      have HX3 := hide (vb_new w3 yr yf yt A3 yd.length k3)
      have HB3 := hide (Bel.alloc (Bel.then HB2.out hb) (.cells #[.int .i64 yr, .int .i64 yf, .int .i64 yt, .slice A3 yd.length k3] 25))
      clear hb hr3 QG HB2
      simp only
      go_wp2_with fail
      refine (QH.out _).mono ?_
      rintro e w4 ⟨A4, k4, rfl, hr4, hb⟩
      simp only at hr4
      unfold verAgg
      simp only
      have HR4 := hide (hr4.kept (Bel.one w4 (.cells #[.int .i64 yr, .int .i64 yf, .int .i64 yt, .slice A4 yd.length k4] 25)))
      have HX4 := hide (vb_new w4 yr yf yt A4 yd.length k4)
      have HR34 := hide ((HR3.out.kept hb).kept (Bel.one w4 (.cells #[.int .i64 yr, .int .i64 yf, .int .i64 yt, .slice A4 yd.length k4] 25)))
      have HX34 := hide ((HX3.out.kept hb).kept (Bel.one w4 (.cells #[.int .i64 yr, .int .i64 yf, .int .i64 yt, .slice A4 yd.length k4] 25)))
      have HB4 := hide (Bel.alloc (Bel.then HB3.out hb) (.cells #[.int .i64 yr, .int .i64 yf, .int .i64 yt, .slice A4 yd.length k4] 25))
      clear hb hr4 QH HB3 HR3 HX3
      generalize w3.heap.size = g3 at *
      go_wp2_with fail
      refine (QA.out _).mono ?_
      rintro e w5 ⟨rfl, hb⟩
      have HR5 := hide (HR4.out.kept hb)
      have HR35 := hide (HR34.out.kept hb)
      have HX5 := hide (HX4.out.kept hb)
      have HX35 := hide (HX34.out.kept hb)
      have HB5 := hide (Bel.then HB4.out hb)
      clear hb QA HB4 HR4 HR34 HX4 HX34
      obtain ⟨⟨k0, k1, k2, k3'⟩, _⟩ := HX5.out.all
      obtain ⟨⟨l0, l1, l2, l3⟩, _⟩ := HX35.out.all
      go_wp2_with fail
      refine (QS.out _ _ _ _ _ HR35.out HR5.out).mono ?_
      rintro e w6 ⟨rfl, hb⟩
      have HB6 := hide (Bel.then HB5.out hb)
      clear hb HB5 QS HX5 HX35 k0 k1 k2 k3' l0 l1 l2 l3
      go_wp2_with fail
      go_ret
      exact ⟨ret_bool (by simp), HB6.out⟩
    · go_enter Try.func3, Try.ntmps3
      go_wp2_with fail
      refine (QO.out _ (Bel.one _ _)).mono ?_
      rintro e w1 ⟨rfl, rfl⟩
      go_wp2_with fail
      refine (QA.out _).mono ?_
      rintro e w2 ⟨rfl, hb⟩
      have HB2 := hide (Bel.then (Bel.one w _) hb)
      clear hb
      go_wp2_with fail
      go_ret
      exact ⟨rfl, HB2.out⟩
  · rw [ho] at QO
    go_enter Try.func3, Try.ntmps3
    go_wp2_with fail
    refine (QO.out _ (Bel.one _ _)).mono ?_
    rintro e w1 ⟨rfl, rfl⟩
    go_wp2_with fail
    refine (QA.out _).mono ?_
    rintro e w2 ⟨rfl, hb⟩
    have HB2 := hide (Bel.then (Bel.one w _) hb)
    clear hb
    go_wp2_with fail
    go_ret
    exact ⟨rfl, HB2.out⟩
end Go.Proofs.Ytebamnlknaoehaa

/- The contract of rowcode.Put. -/
import Derived.Test.YtebamnlknaoehaaRcB
namespace Go.Proofs.Ytebamnlknaoehaa
set_option linter.unusedVariables false
open Go.ChangeShapes Go.WideShapes Go.ChangeAt Go.RowKit

def strL (l : List UInt8) : ByteArray := ⟨l.toArray⟩
/-- What Put gives. -/
def GivesP (w : World) (x : Int × List UInt8) (e : Ending) (w' : World) : Prop := e = .returned (.tuple #[.string (strL x.2), .int .i64 x.1]) ∧ Below w.heap.size w w'
theorem flat_snoc (l : List ValV) (v : ValV) : flatR (l ++ [v]) = flatR l ++ encV v := by simp [flatR]
theorem flat_take_len {r : List ValV} (h : r.all rightP = true) (k : Nat) : (flatR (r.take k)).length ≤ 102 * r.length := by
  have h2 : (r.take k).all rightP = true := by rw [List.all_eq_true]; exact fun x hx => List.all_eq_true.1 h x (List.mem_of_mem_take hx)
  have h3 := flat_len_size _ h2
  have h4 := sum_range _ h2
  rw [List.length_take] at h4
  omega
set_option maxHeartbeats 1000000 in
theorem putR_c (A : Option Addr) (n c : Nat) (r : List ValV) (w : World) (h : RowAt w w.heap.size A n c r) (hn : n ≤ 1048576) (hr : ∀ a ∈ r, OkV a) :
    Calls Try.prog 23 #[.slice A n c] w (GivesP w (putG r)) := by
  have Q := hide (rights_c A n c r w h hn hr)
  have QS := hide (fun (W : World) (hW : Below w.heap.size w W) => sizeR_c A n c r W (h.kept hW) hn hr)
  have H := hide h
  have HL := hide h.len
  clear h hr
  unfold sizeR at QS
  rcases putG_cases r with ⟨ho, hp⟩ | ⟨hf, hp⟩ | ⟨ht, hno, hp⟩
  · rw [hp]
    rw [if_pos ho.right] at QS
    rw [ho.right] at Q
    have hsz := bytes_len ho.right
    have h400 := ho.size
    have h32 : n ≤ 32 := by rw [← HL.out]; exact ho.len
    have hs2 : 1 + sumV r ≤ 400 := by omega
    generalize 1 + sumV r = y at *
    have HO := hide ho
    clear ho hp hsz h400 hn
    go_enter Try.func23, Try.ntmps23
    go_wp2_with fail
    refine Q.out.mono ?_
    rintro e w1 ⟨rfl, hb⟩
    have HB := hide hb
    clear hb
    go_wp2_with fail
    refine (QS.out _ HB.out).mono ?_
    rintro e w2 ⟨rfl, hb⟩
    have HB2 := hide (HB.out.trans (hb.mono HB.out.size))
    clear hb HB
    go_wp2_with fail
    have QB := hide (bld_byteZ w2.heap.size w2.heap.size [] (byteOf (n : Int)) (n : Int) _ (by rw [byteOf_len h32]) (bld_new w2) (by simp) (by rw [World.size_alloc]; omega))
    refine QB.out.mono ?_
    rintro e w3 ⟨rfl, h3, hb3, _⟩
    obtain ⟨g, hg⟩ : ∃ g, Hid (w2.heap.size = g) := ⟨_, rfl⟩
    rw [hg.out] at h3 hb3
    have H3 := hide h3
    have HB3 := hide (((Below.refl w2.heap.size w2).alloc (Nat.le_refl _) (.cells #[.pointer none, .slice none 0 0] 64)).trans (by rw [hg.out]; exact hb3))
    clear h3 hb3 QB QS Q
    rw [hg.out] at HB3
    simp only [hg.out]
    go_wp2_with fail
    go_loopw [24] (fun i wr => ∃ k : Nat, k ≤ n ∧ i = .int .i64 k ∧ Hid (BldAt wr g g (byteOf (n : Int) :: flatR (r.take k))) ∧ Hid (Below g w2 wr)) (fun i _ => n - (intOf i).toNat)
    case atStart => exact ⟨0, Nat.zero_le _, rfl, H3, HB3⟩
    case round =>
      obtain ⟨k, hk, rfl, HK, HB⟩ := hrel
      have hsize : g ≤ wr.heap.size := by have := HB.out.size; have := hg.out; omega
      by_cases hlt : k < n
      · obtain ⟨b, off, v, rfl, hb, hv, hc0, hc1, hc2⟩ := RowAt.val (H.out.below (HB2.out.trans (HB.out.mono (by rw [← hg.out]; exact HB2.out.size)))) hlt
        have hrv : rightP v = true := List.all_eq_true.1 HO.out.right v (List.mem_of_getElem? hv)
        have hlen : (byteOf (n : Int) :: flatR (r.take k)).length ≤ 1000000000 := by
          have := flat_take_len HO.out.right k
          have := HO.out.len
          rw [List.length_cons]
          omega
        have ht := take_at hv
        have HT := hide (show (byteOf (n : Int) :: flatR (r.take k)) ++ encV v = byteOf (n : Int) :: flatR (r.take (k + 1)) by rw [ht, flat_snoc]; rfl)
        have Q := hide (fun W (hW : Below wr.heap.size wr W) => put_c g g (byteOf (n : Int) :: flatR (r.take k)) v W hrv (HK.out.kept hW) hlen (Nat.le_trans hsize hW.size))
        rw [HT.out] at Q
        clear hv hrv ht HK HT hlen
        obtain ⟨vk, vn, vs⟩ := v
        simp only [valAgg] at Q hc0 hc1 hc2
        go_wp2_with fail
        refine (Q.out _ (by first | exact Below.refl _ _ | exact Bel.one _ _)).mono ?_
        rintro e w4 ⟨rfl, h4, hb4⟩
        have H4 := hide h4
        have HB4 := hide (HB.out.trans (((Below.refl g wr).alloc hsize _).trans hb4))
        clear h4 hb4
        go_wp2_with fail
        go_roundw
        case rel => exact ⟨k + 1, by omega, by go_num, H4, HB4⟩
        case measure => simp [intOf]; omega
      · obtain rfl : k = n := by omega
        have e : r.take k = r := by rw [← HL.out, List.take_length]
        rw [e] at HK
        have QG := hide (bld_get g g _ wr HK.out hsize)
        have HR := hide (show (⟨(byteOf (k : Int) :: flatR r).toArray⟩ : ByteArray) = strL (bytesR r) by unfold bytesR strL; rw [HL.out])
        rw [HR.out] at QG
        clear HK HR e
        go_wp2_with fail
        refine QG.out.mono ?_
        rintro e w5 ⟨rfl, _, hb5, _⟩
        have HB5 := hide (HB.out.trans hb5)
        clear hb5 QG
        go_wp2_with fail
        go_ret2
        exact ⟨rfl, HB2.out.trans (HB5.out.mono (by rw [← hg.out]; exact HB2.out.size))⟩
  · rw [hp]
    rw [hf] at Q
    go_enter Try.func23, Try.ntmps23
    go_wp2_with fail
    refine Q.out.mono ?_
    rintro e w1 ⟨rfl, hb⟩
    have HB := hide hb
    clear hb
    go_wp2_with fail
    go_ret2
    exact ⟨rfl, HB.out⟩
  · rw [hp]
    rw [if_pos ht] at QS
    rw [ht] at Q
    have hsz := bytes_len ht
    by_cases h32 : n ≤ 32
    · have hs2 : ¬ 1 + sumV r ≤ 400 := fun h => hno ⟨ht, by rw [HL.out]; exact h32, by omega⟩
      generalize 1 + sumV r = y at *
      clear hno hp hsz hn
      go_enter Try.func23, Try.ntmps23
      go_wp2_with fail
      refine Q.out.mono ?_
      rintro e w1 ⟨rfl, hb⟩
      have HB := hide hb
      clear hb
      go_wp2_with fail
      refine (QS.out _ HB.out).mono ?_
      rintro e w2 ⟨rfl, hb⟩
      have HB2 := hide (HB.out.trans (hb.mono HB.out.size))
      clear hb HB
      go_wp2_with fail
      go_ret2
      exact ⟨rfl, HB2.out⟩
    · clear hno hp hsz
      go_enter Try.func23, Try.ntmps23
      go_wp2_with fail
      refine Q.out.mono ?_
      rintro e w1 ⟨rfl, hb⟩
      have HB := hide hb
      clear hb
      go_wp2_with fail
      go_ret2
      exact ⟨rfl, HB.out⟩
end Go.Proofs.Ytebamnlknaoehaa

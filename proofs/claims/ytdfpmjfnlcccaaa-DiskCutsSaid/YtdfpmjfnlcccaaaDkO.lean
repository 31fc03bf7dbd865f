/- The contracts of the statements' own page and examples. -/
import Derived.Test.YtdfpmjfnlcccaaaDkN
namespace Go.Proofs.Ytdfpmjfnlcccaaa
set_option linter.unusedVariables false
open Go.ChangeShapes Go.WideShapes Go.ChangeAt Go.RowKit

def repS (N : Nat) (c : UInt8) : ByteArray := ⟨(List.replicate N c).toArray⟩
theorem repS_size (N : Nat) (c : UInt8) : (repS N c).size = N := by show (List.replicate N c).toArray.size = N; simp
theorem rep_nums (N : Nat) (c : UInt8) : strOfNums (List.replicate N (c.toNat : Int)) = repS N c := by
  unfold strOfNums repS
  rw [List.map_replicate]
  simp
theorem tab_conv (N g : Nat) (c : UInt8) (W : World) (h : TabAt W g 5 (fun _ => .int .u8 c.toNat) N) : (convert 43 9 (.slice (some ⟨g, 0, none⟩) N N)).run Try.prog W = .ok (.string (repS N c)) W := by
  rw [← rep_nums]
  refine run_convert_bytes_arg W 43 5 Try.underlying43 Try.underlying5 g 0 N N (List.replicate N (c.toNat : Int)) (by rw [List.length_replicate]) ?_ 9 Try.underlying9
  intro i hi
  have hi' : i < N := by simpa using hi
  rw [Nat.zero_add, h.cell hi', List.getD_eq_getElem?_getD, List.getElem?_replicate, if_pos hi']
  rfl
theorem tab_step {W : World} {g N k : Nat} {c : UInt8} (h : TabAt W g 5 (fun i => .int .u8 (if i < k then (c.toNat : Int) else 0)) N) : TabAt (W.setCell ⟨g, k, none⟩ (.int .u8 c.toNat)) g 5 (fun i => .int .u8 (if i < k + 1 then (c.toNat : Int) else 0)) N := by
  refine (h.set k _).congr fun i _ => ?_
  by_cases e : i = k
  · subst e; simp
  · rw [if_neg e]
    by_cases h1 : i < k
    · rw [if_pos h1, if_pos (by omega)]
    · rw [if_neg h1, if_neg (by omega)]
set_option maxRecDepth 100000 in
set_option maxHeartbeats 1000000 in
theorem page_c (c : UInt8) (w : World) : Calls Try.prog 16 #[.int .u8 c.toNat] w fun e w' => e = .returned (.string (repS 512 c)) ∧ Below w.heap.size w w' := by
  have hcv := hide (fun g W h => tab_conv 512 g c W h)
  generalize repS 512 c = r at *
  go_enter Try.func16, Try.ntmps16
  go_wp2_with (at_make; refine wpList_make_tab _ rfl (.const (.int .i64 512)) (.const (.int .i64 512)) 43 rfl 5 (.int .u8 0) 1 Try.underlying43 u8_info rfl .i64 .i64 _ _ 512 rfl rfl rfl rfl (by omega) (by omega) ?_; intro w2 g hg ht2 hb2 hz2; have HT2 := hide (ht2.congr (g := fun i => .int .u8 (if i < 0 then (c.toNat : Int) else 0)) (fun i _ => by simp)); have HB2 := hide hb2; have hgw : w.heap.size ≤ g := Nat.le_of_eq hg; clear ht2 hb2 hg hz2)
  go_loopw [4] (fun i wr => ∃ k : Nat, k ≤ 512 ∧ i = .int .i64 k ∧ Hid (TabAt wr g 5 (fun i => .int .u8 (if i < k then (c.toNat : Int) else 0)) 512) ∧ Hid (Below w.heap.size w wr)) (fun i _ => 512 - (intOf i).toNat)
  case atStart => exact ⟨0, Nat.zero_le _, rfl, HT2, HB2⟩
  case round =>
    obtain ⟨k, hk, rfl, HT, HB⟩ := hrel
    clear HT2 HB2
    have hwk : IntKind.i64.wrap ((k : Int) + 1) = (k : Int) + 1 := IntWalk.i64_in _ (by omega)
    by_cases hlt : k < 512
    · have hlti : (k : Int) < 512 := by omega
      obtain ⟨v0, hv0⟩ : ∃ v, Hid (wr.cell? ⟨g, k, none⟩ = some v) := ⟨_, HT.out.cell hlt⟩
      have hv1 := hv0.out
      have hf1 := HT.out.unfrozen k
      have H2 := hide (tab_step HT.out)
      have B2 := hide (HB.out.setCell (p := ⟨g, k, none⟩) hgw (.int .u8 c.toNat))
      clear HT HB hcv
      go_wp2_with fail
      go_roundw
      case rel => exact ⟨k + 1, by omega, by go_num, H2, B2⟩
      case measure => simp [intOf]; omega
    · obtain rfl : k = 512 := by omega
      have hlti : ¬ ((512 : Nat) : Int) < 512 := by omega
      have hq := hcv.out g wr (HT.out.congr fun i hi => by simp [hi])
      clear HT hcv
      go_wp2_with fail
      go_ret
      exact ⟨rfl, HB.out⟩
def exD : DiskV := ⟨List.replicate 8 zeroS, -1, false⟩
theorem ex_new : newD 8 = (exD, 0) := rfl
def exA : DiskV := ⟨List.replicate 8 zeroS, 2, false⟩
theorem ex_arm : armD exD 2 = exA := rfl
def exW : DiskV := ⟨[zeroS, zeroS, zeroS, zeroS, repS 128 97, repS 128 97, zeroS, zeroS], 0, true⟩
theorem sec_rep (c : UInt8) (k : Nat) (hk : k < 4) : secOf (repS 512 c) k = repS 128 c := by
  unfold secOf repS
  apply ByteArray.ext
  apply Array.ext'
  rw [ByteArray.data_extract, Array.toList_extract, List.extract_eq_take_drop, List.drop_replicate, List.take_replicate]
  show List.replicate _ c = List.replicate 128 c
  congr 1
  omega
theorem ex_write : writeP exA 4 (repS 512 97) = (exW, 20) := by
  unfold writeP
  rw [if_neg (by decide), if_neg (by rw [repS_size]; decide)]
  have hz : (repS 128 97).size = 128 := repS_size _ _
  have h1 : writeD exA (4 + (0 : Nat)) (repS 128 97) = (⟨[zeroS, zeroS, zeroS, zeroS, repS 128 97, zeroS, zeroS, zeroS], 1, false⟩, 0) := by
    unfold writeD
    rw [if_neg (by decide), if_neg (by rw [hz]; decide), if_neg (by decide)]
    rfl
  have h2 : writeD ⟨[zeroS, zeroS, zeroS, zeroS, repS 128 97, zeroS, zeroS, zeroS], 1, false⟩ (4 + (1 : Nat)) (repS 128 97) = (⟨[zeroS, zeroS, zeroS, zeroS, repS 128 97, repS 128 97, zeroS, zeroS], 0, false⟩, 0) := by
    unfold writeD
    rw [if_neg (by decide), if_neg (by rw [hz]; simp), if_neg (by decide)]
    rfl
  have h3 : writeD ⟨[zeroS, zeroS, zeroS, zeroS, repS 128 97, repS 128 97, zeroS, zeroS], 0, false⟩ (4 + (2 : Nat)) (repS 128 97) = (exW, 20) := by
    unfold writeD
    rw [if_neg (by decide), if_neg (by rw [hz]; simp), if_pos rfl]
    rfl
  rw [writeFrom, sec_rep _ _ (by omega), h1, if_neg (by simp), writeFrom, sec_rep _ _ (by omega)]
  simp only
  rw [h2, if_neg (by simp), writeFrom, sec_rep _ _ (by omega)]
  simp only
  rw [h3, if_pos (by simp)]
def exS : DiskV := ⟨[zeroS, zeroS, zeroS, zeroS, repS 128 97, repS 128 97, zeroS, zeroS], -1, false⟩
theorem ex_start : startD exW = exS := rfl
def exP : ByteArray := repS 128 97 ++ repS 128 97 ++ zeroS ++ zeroS
theorem ex_read : readP exS 4 = (exP, 0) := by
  unfold readP
  rw [if_neg (by decide), if_neg (by decide)]
  have : pageAt exS.secs (4 : Int).toNat 4 = exP := by
    show (((ByteArray.empty ++ repS 128 97) ++ repS 128 97) ++ zeroS) ++ zeroS = exP
    rw [ByteArray.empty_append]
    rfl
  rw [this]
theorem exP_size : exP.size = 512 := by
  unfold exP
  rw [ByteArray.size_append, ByteArray.size_append, ByteArray.size_append, repS_size, zeroS_size]
end Go.Proofs.Ytdfpmjfnlcccaaa

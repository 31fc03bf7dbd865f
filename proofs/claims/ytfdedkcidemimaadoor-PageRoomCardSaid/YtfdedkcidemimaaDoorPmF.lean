/- Pages: sealed; with another LSN, another link; what a slot has. No walk. -/
import Derived.Test.YtfdedkcidemimaaDoorPmE
namespace Go.Proofs.YtfdedkcidemimaaDoor
set_option linter.unusedVariables false
open Go.ChangeShapes Go.WideShapes Go.ChangeAt Go.RowKit

theorem sumP_range (s : ByteArray) : 0 ≤ sumP s ∧ sumP s < 4294967296 := by
  rw [← sumP_same]
  obtain ⟨v, _, h2, h3⟩ := sum_same s.data.toList 4294967295 (by omega)
  rw [show ((4294967295 : Nat) : Int) = 4294967295 from rfl] at h2
  unfold rsumP rsumL
  have a := xor64 v 4294967295 h3 (by omega)
  rw [h2, show (4294967295 : Int) = ((4294967295 : Nat) : Int) from rfl, a.1, IntWalk.wrap64_in _ (by omega)]
  omega
/-- What there is of bytes: nothing, if they are no page. -/
def qC (p : ByteArray) : CtV := if rightB p then readC p else ⟨0, 0, 0, []⟩
def rgetV (l : List ByteArray) (s : Int) : ByteArray × Bool := if 0 ≤ s ∧ s.toNat < l.length ∧ (l.getD s.toNat ⟨#[]⟩).size ≠ 0 then (l.getD s.toNat ⟨#[]⟩, true) else (⟨#[]⟩, false)
theorem recAt_size {p : ByteArray} (R : RightP p) {i : Nat} (h : i < shN p 15) : (recAt p i).size = shN p (21 + 4 * i) := by
  have := R.slot h
  rw [← bl_len, recAt_bl, sub_len (by rw [bl_len, R.size]; omega)]
theorem getD_rec {p : ByteArray} {i : Nat} (h : i < shN p 15) : (readC p).recs.getD i ⟨#[]⟩ = recAt p i := by
  rw [List.getD_eq_getElem?_getD, recs_at p h]
  rfl
theorem getS_q (p : ByteArray) (s : Int) : getS p s = rgetV (qC p).recs s := by
  unfold getS rgetV qC
  cases hr : rightB p with
  | false =>
    rw [if_neg (by simp), if_neg (by simp)]
  | true =>
    have R := (rightP_iff p).mp hr
    rw [if_pos (show true = true from rfl), readC_len]
    by_cases hc : 0 ≤ s ∧ s.toNat < shN p 15
    · rw [getD_rec hc.2, recAt_size R hc.2]
      by_cases h0 : shN p (21 + 4 * s.toNat) ≠ 0
      · rw [if_pos ⟨rfl, hc.1, hc.2, h0⟩, if_pos ⟨hc.1, hc.2, h0⟩]
      · rw [if_neg (fun h => h0 h.2.2.2), if_neg (fun h => h0 h.2.2)]
    · rw [if_neg (fun h => hc ⟨h.2.1, h.2.2.1⟩), if_neg (fun h => hc ⟨h.1, h.2.1⟩)]
theorem kindS_q (p : ByteArray) : (kindS p : Int) = (qC p).kind := by
  unfold kindS qC
  cases rightB p <;> rfl
theorem lsnS_q (p : ByteArray) : lsnS p = (qC p).lsn := by
  unfold lsnS qC
  cases rightB p <;> rfl
theorem linkS_q (p : ByteArray) : linkS p = (qC p).link := by
  unfold linkS qC
  cases rightB p <;> rfl
theorem slotsS_q (p : ByteArray) : slotsS p = (qC p).recs.length := by
  unfold slotsS qC
  cases rightB p with
  | false => rfl
  | true => exact (readC_len p).symm
theorem freeS_q (p : ByteArray) : freeS p = freeI (qC p).recs := by
  unfold freeS qC
  cases rightB p <;> rfl
theorem lay_drop {c : CtV} (h : CtOk c) : (layL c).data.toList = z4 ++ ((strOfNums (putL c.lsn 6)).data.toList ++ (layL c).data.toList.drop 10) := by
  have e6 := put_len c.lsn 6
  rw [layL_bl]
  generalize (strOfNums (putL c.lsn 6)).data.toList = L6 at *
  generalize [UInt8.ofNat c.kind.toNat, 0] ++ ((strOfNums (putL c.link 3)).data.toList ++ ((strOfNums (putL c.recs.length 2)).data.toList ++ ((strOfNums (putL (layF c.recs).at' 2)).data.toList ++ ((layF c.recs).slots ++ (List.replicate ((layF c.recs).at' - 19 - 4 * c.recs.length) 0 ++ (layF c.recs).recs))))) = T
  have : (z4 ++ (L6 ++ T)).drop 10 = T := by
    rw [← List.append_assoc, List.drop_append, List.drop_of_length_le (by rw [List.length_append, e6]; exact Nat.le_refl _), List.length_append, e6]
    rfl
  rw [this]
theorem with_lsn {p : ByteArray} (R : RightP p) {n : Int} (h0 : 0 ≤ n) (h1 : n ≤ 281474976710655) : layR ⟨n, (readC p).kind, (readC p).link, (readC p).recs⟩ = setLsnS p n := by
  have ok := readC_ok R
  have ok2 : CtOk ⟨n, (readC p).kind, (readC p).link, (readC p).recs⟩ := ⟨⟨h0, h1⟩, ok.kind, ok.link, ok.fits, ok.small, ok.trim⟩
  rw [layR_ok ok2]
  unfold setLsnS
  rw [if_pos ⟨(rightP_iff p).mpr R, h0, h1⟩]
  apply bl_ext
  rw [bl_app, bl_app, bl_cut, List.take_of_length_le (by rw [List.length_drop, bl_len]; omega), layL_bl]
  have hp := lay_read R
  rw [layL_bl] at hp
  have e6 := put_len (readC p).lsn 6
  generalize (strOfNums (putL (readC p).lsn 6)).data.toList = L6 at *
  dsimp only
  generalize [UInt8.ofNat (readC p).kind.toNat, 0] ++ ((strOfNums (putL (readC p).link 3)).data.toList ++ ((strOfNums (putL (readC p).recs.length 2)).data.toList ++ ((strOfNums (putL (layF (readC p).recs).at' 2)).data.toList ++ ((layF (readC p).recs).slots ++ (List.replicate ((layF (readC p).recs).at' - 19 - 4 * (readC p).recs.length) 0 ++ (layF (readC p).recs).recs))))) = T at *
  have hT : p.data.toList.drop 10 = T := by
    have h4 : p.data.toList.drop 4 = L6 ++ T := List.append_cancel_left hp.symm
    rw [show 10 = 4 + 6 from rfl, ← List.drop_drop, h4, List.drop_append, List.drop_of_length_le (by omega), e6]
    rfl
  rw [hT]
  show _ = ([0, 0, 0, 0] ++ _) ++ T
  rw [List.append_assoc]
  rfl
theorem with_link {p : ByteArray} (R : RightP p) {n : Int} (h0 : 0 ≤ n) (h1 : n ≤ 16777215) : layR ⟨(readC p).lsn, (readC p).kind, n, (readC p).recs⟩ = setLinkS p n := by
  have ok := readC_ok R
  have ok2 : CtOk ⟨(readC p).lsn, (readC p).kind, n, (readC p).recs⟩ := ⟨ok.lsn, ok.kind, ⟨h0, h1⟩, ok.fits, ok.small, ok.trim⟩
  rw [layR_ok ok2]
  unfold setLinkS
  rw [if_pos ⟨(rightP_iff p).mpr R, h0, h1⟩]
  apply bl_ext
  rw [bl_app, bl_app, bl_app, bl_cut, bl_cut, List.take_of_length_le (l := p.data.toList.drop 15) (by rw [List.length_drop, bl_len]; omega), layL_bl]
  have hp := lay_read R
  rw [layL_bl] at hp
  have e6 := put_len (readC p).lsn 6
  have e3 := put_len (readC p).link 3
  generalize (strOfNums (putL (readC p).lsn 6)).data.toList = L6 at *
  generalize (strOfNums (putL (readC p).link 3)).data.toList = L3 at *
  dsimp only
  obtain ⟨LK, hLK⟩ : ∃ LK, [UInt8.ofNat (readC p).kind.toNat, 0] = LK := ⟨_, rfl⟩
  have ek : LK.length = 2 := by rw [← hLK]; rfl
  rw [hLK] at hp ⊢
  generalize ((strOfNums (putL (readC p).recs.length 2)).data.toList ++ ((strOfNums (putL (layF (readC p).recs).at' 2)).data.toList ++ ((layF (readC p).recs).slots ++ (List.replicate ((layF (readC p).recs).at' - 19 - 4 * (readC p).recs.length) 0 ++ (layF (readC p).recs).recs)))) = T at *
  have h4 : p.data.toList.drop 4 = L6 ++ (LK ++ (L3 ++ T)) := List.append_cancel_left hp.symm
  have hT : p.data.toList.drop 15 = T := by
    rw [show 15 = 4 + 11 from rfl, ← List.drop_drop, h4, ← List.append_assoc, ← List.append_assoc, List.drop_append, List.drop_of_length_le (by simp; omega), List.length_append, List.length_append, e6, ek, e3]
    rfl
  have hU : (p.data.toList.drop 4).take (12 - 4) = L6 ++ LK := by
    rw [h4, ← List.append_assoc, List.take_append_of_le_length (by rw [List.length_append, e6, ek]; omega), List.take_of_length_le (by rw [List.length_append, e6, ek]; omega)]
  rw [hT, hU]
  show _ = ([0, 0, 0, 0] ++ (L6 ++ LK)) ++ _ ++ T
  simp only [List.append_assoc]
  rfl
theorem new_lay {k : Int} (h : 0 ≤ k ∧ k ≤ 4) : CtOk ⟨0, k, 0, []⟩ := ⟨⟨by dsimp only; omega, by dsimp only; omega⟩, h, ⟨by dsimp only; omega, by dsimp only; omega⟩, (show sizeN [] ≤ 512 from by decide), (by intro r hr; cases hr), (by intro r hr; cases hr)⟩
theorem seal_same {p : ByteArray} (hz : p.size = 512) : ((sealP (p.extract 4 p.size)).toList == p.toList) = (openP p).2 := by
  have g := getP_be (s := p) (a := 0) (k := 4) (by omega) (by omega) (by omega)
  have hr := sumP_range (p.extract 4 p.size)
  have hl : (sub p.data.toList 0 4).length = 4 := sub_len (by rw [bl_len]; omega)
  have e0 : p.data.toList = sub p.data.toList 0 4 ++ p.data.toList.drop 4 := by
    have := drop_sub p.data.toList 0 4
    rw [List.drop_zero] at this
    exact this
  unfold openP
  rw [show (getP p 0 4) = _ from g]
  dsimp only
  rw [Bool.true_and]
  generalize hs : sumP (p.extract 4 p.size) = s at *
  have hx : (sealP (p.extract 4 p.size)).data.toList = (strOfNums (putL s 4)).data.toList ++ p.data.toList.drop 4 := by
    unfold sealP
    rw [hs, bl_app, bl_cut, List.take_of_length_le (by rw [List.length_drop, bl_len]; omega)]
  rw [toList_bl, toList_bl, hx]
  by_cases hc : be (sub p.data.toList 0 4) = s
  · rw [if_pos (by simp [hc])]
    have : (strOfNums (putL s 4)).data.toList = sub p.data.toList 0 4 := by rw [← hc]; exact strOf_be hl
    rw [this, ← e0]
    simp
  · rw [if_neg (by simp [hc])]
    cases hb : ((strOfNums (putL s 4)).data.toList ++ p.data.toList.drop 4 == p.data.toList) with
    | false => rfl
    | true =>
      exfalso
      have he : (strOfNums (putL s 4)).data.toList ++ p.data.toList.drop 4 = p.data.toList := by simpa using hb
      have h2 := he.trans e0
      have h3 := List.append_cancel_right h2
      apply hc
      rw [← h3]
      exact be_put hr.1 (by omega)
end Go.Proofs.YtfdedkcidemimaaDoor

/- Pages: what is awake. No walk. -/
import Derived.Test.YtfdedkcidemimaaDoorPmI
import Derived.Test.YtfdedkcidemimaaDoorPmG
import Derived.Test.YtfdedkcidemimaaDoorPrL
namespace Go.Proofs.YtfdedkcidemimaaDoor
set_option linter.unusedVariables false
open Go.ChangeShapes Go.WideShapes Go.ChangeAt Go.RowKit

def awc : CtV := ⟨0, 2, 0, []⟩
def awd : CtV := ⟨0, 2, 0, [⟨#[]⟩, ⟨#[97, 98]⟩]⟩
def awP : ByteArray := layL awc
def awQ : ByteArray := layL awd
theorem okc : CtOk awc := new_lay (k := 2) (by omega)
theorem okd : CtOk awd := by
  refine ⟨⟨by decide, by decide⟩, ⟨by decide, by decide⟩, ⟨by decide, by decide⟩, by decide, ?_, ?_⟩
  · intro r hr
    have hr2 : r ∈ [(⟨#[]⟩ : ByteArray), ⟨#[97, 98]⟩] := hr
    simp at hr2
    rcases hr2 with rfl | rfl <;> decide
  · intro r hr
    have hr2 : some (⟨#[97, 98]⟩ : ByteArray) = some r := hr
    obtain rfl := Option.some.inj hr2
    decide
theorem rc : RightP awP := lay_right' okc
theorem rd : RightP awQ := lay_right' okd
theorem readc : readC awP = awc := read_lay okc
theorem readd : readC awQ = awd := read_lay okd
theorem rcb : rightB awP = true := (rightP_iff _).mpr rc
theorem rdb : rightB awQ = true := (rightP_iff _).mpr rd
theorem qc : qC awP = awc := by unfold qC; rw [rcb, if_pos rfl, readc]
theorem qd : qC awQ = awd := by unfold qC; rw [rdb, if_pos rfl, readd]
theorem aw0 : newS 2 = awP := by unfold newS; rw [if_pos (by omega)]; rfl
theorem aw1 : newS 5 = ⟨#[]⟩ := by unfold newS; rw [if_neg (by omega)]
theorem aw2 : awP.size = 512 := layL_size awc okc.fits
theorem aw3 : awP.extract 17 19 = ⟨#[2, 0]⟩ := by
  apply bl_ext
  rw [bl_cut]
  have h := put_sh (p := awP) (i := 17) (by rw [aw2]; omega)
  have e : shN awP 17 = 512 := q_beg okc
  rw [e] at h
  show sub awP.data.toList 17 2 = _
  rw [← h]
  decide +kernel
theorem aw5 : roomS awP = 400 := by
  unfold roomS
  rw [if_pos rcb, readc]
  decide +kernel
theorem aw6g : getS awP 1 = (⟨#[]⟩, false) := by rw [getS_q, qc]; decide +kernel
theorem aw6 : putS awP 1 ⟨#[97, 98]⟩ = (awQ, 0) := by
  rw [putS_yes rc (by omega) (by decide +kernel) (by rw [aw6g]), if_neg (by omega), readc]
  rw [madeS_eq]
  have e : trimmed (withR awc (setP awc.recs (1 : Int).toNat ⟨#[97, 98]⟩)).recs = awd.recs := by decide +kernel
  rw [e, if_neg (by decide +kernel)]
  rfl
theorem aw7 : getS awQ 1 = (⟨#[97, 98]⟩, true) := by rw [getS_q, qd]; decide +kernel
theorem aw8 : putS awQ 1 ⟨#[99]⟩ = (⟨#[]⟩, 1) := by
  unfold putS
  rw [if_pos ⟨rdb, by omega, by decide +kernel⟩, if_pos (by rw [aw7])]
theorem aw9 : cutS awQ 1 = (awP, 0) := by
  unfold cutS
  rw [if_pos rdb, if_pos (by rw [aw7]), readd, madeS_eq]
  have e : trimmed (withR awd (awd.recs.set (1 : Int).toNat ⟨#[]⟩)).recs = awc.recs := by decide +kernel
  rw [e, if_neg (by decide +kernel)]
  rfl
theorem aw10 : slotsS awQ = 2 := by rw [slotsS_q, qd]; rfl
theorem aw11 : freeS awQ = 0 := by rw [freeS_q, qd]; decide +kernel
theorem aw12 : (kindS awQ : Int) = 2 := by rw [kindS_q, qd]; rfl
theorem aw13 : awQ.size = 512 := layL_size awd okd.fits
theorem aw14 : awQ.extract 510 512 = ⟨#[97, 98]⟩ := by
  apply bl_ext
  obtain ⟨x, hx, hl⟩ := (lay_at okd).recs
  have e : (layF awd.recs).at' = 510 := by decide +kernel
  have e2 : (layF awd.recs).recs = [97, 98] := by decide +kernel
  rw [e] at hl
  rw [e2] at hx
  have hq : awQ.data.toList = x ++ [97, 98] := hx
  rw [bl_cut, hq, List.drop_append, List.drop_of_length_le (by omega), hl]
  decide
theorem aw15 : sealedS (sealS awP) = true := seal_sealed rc
theorem zchunk {z v a b : Nat} (h : sumN z (List.replicate a 0) = v) : sumN z (List.replicate (a + b) 0) = sumN v (List.replicate b 0) := by
  rw [← List.replicate_append_replicate, sumN_app, h]
theorem aw16 : sealedS awP = false := by
  unfold sealedS
  rw [rcb, Bool.and_true]
  have hz := aw2
  have g := getP_be (s := awP) (a := 0) (k := 4) (by omega) (by omega) (by omega)
  have hs : sub awP.data.toList 0 4 = z4 := by
    show sub (layL awc).data.toList 0 4 = z4
    rw [layL_bl]
    exact sub_head rfl
  rw [hs] at g
  have hd : (awP.extract 4 awP.size).data.toList = [0, 0, 0, 0, 0, 0, 2, 0, 0, 0, 0, 0, 0, 2, 0] ++ List.replicate 493 0 := by
    rw [bl_cut, hz, List.take_of_length_le (by rw [List.length_drop, bl_len, hz]; omega)]
    have hq : awP.data.toList = _ := layL_bl awc
    rw [hq]
    have h1 : (strOfNums (putL awc.lsn 6)).data.toList = [0, 0, 0, 0, 0, 0] := by decide +kernel
    have h2 : [UInt8.ofNat awc.kind.toNat, 0] = [2, 0] := by decide +kernel
    have h3 : (strOfNums (putL awc.link 3)).data.toList = [0, 0, 0] := by decide +kernel
    have h4 : (strOfNums (putL awc.recs.length 2)).data.toList = [0, 0] := by decide +kernel
    have h5 : (layF awc.recs).at' = 512 := by decide +kernel
    have h6 : (strOfNums (putL ((512 : Nat) : Int) 2)).data.toList = [2, 0] := by decide +kernel
    have h7 : (layF awc.recs).slots = [] := rfl
    have h8 : (layF awc.recs).recs = [] := rfl
    have h9 : awc.recs.length = 0 := rfl
    rw [h1, h2, h3, h5, h4, h6, h7, h8, h9, show 512 - 19 - 4 * 0 = 493 from rfl]
    generalize List.replicate 493 (0 : UInt8) = Z
    simp [z4]
  have hne : sumP (awP.extract 4 awP.size) ≠ 0 := by
    have hm : ([0, 0, 0, 0, 0, 0, 2, 0, 0, 0, 0, 0, 0, 2, 0] ++ List.replicate 493 0 : List UInt8).map (·.toNat) = [0, 0, 0, 0, 0, 0, 2, 0, 0, 0, 0, 0, 0, 2, 0] ++ List.replicate 493 0 := by
      rw [List.map_append, List.map_replicate]
      rfl
    rw [sumP_nat, hd, hm, sumN_app]
    rw [show sumN 4294967295 [0, 0, 0, 0, 0, 0, 2, 0, 0, 0, 0, 0, 0, 2, 0] = 887928348 from by decide +kernel]
    rw [show 493 = 50 + 443 from rfl, zchunk (show sumN 887928348 (List.replicate 50 0) = 3811834736 from by decide +kernel)]
    rw [show 443 = 50 + 393 from rfl, zchunk (show sumN 3811834736 (List.replicate 50 0) = 492911100 from by decide +kernel)]
    rw [show 393 = 50 + 343 from rfl, zchunk (show sumN 492911100 (List.replicate 50 0) = 4195200998 from by decide +kernel)]
    rw [show 343 = 50 + 293 from rfl, zchunk (show sumN 4195200998 (List.replicate 50 0) = 1209330204 from by decide +kernel)]
    rw [show 293 = 50 + 243 from rfl, zchunk (show sumN 1209330204 (List.replicate 50 0) = 3570303491 from by decide +kernel)]
    rw [show 243 = 50 + 193 from rfl, zchunk (show sumN 3570303491 (List.replicate 50 0) = 2342380948 from by decide +kernel)]
    rw [show 193 = 50 + 143 from rfl, zchunk (show sumN 2342380948 (List.replicate 50 0) = 15932860 from by decide +kernel)]
    rw [show 143 = 50 + 93 from rfl, zchunk (show sumN 15932860 (List.replicate 50 0) = 4231704257 from by decide +kernel)]
    rw [show 93 = 50 + 43 from rfl, zchunk (show sumN 4231704257 (List.replicate 50 0) = 454498349 from by decide +kernel)]
    rw [show sumN 454498349 (List.replicate 43 0) = 1273219724 from by decide +kernel]
    decide +kernel
  unfold openP
  rw [show (getP awP 0 4) = _ from g]
  dsimp only
  rw [Bool.true_and, if_neg]
  have : be z4 = 0 := by decide
  rw [this]
  simp
  exact fun h => hne h.symm
end Go.Proofs.YtfdedkcidemimaaDoor

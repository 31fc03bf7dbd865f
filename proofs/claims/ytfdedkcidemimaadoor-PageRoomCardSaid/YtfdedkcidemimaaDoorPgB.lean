/- Pages: what a right page's slots keep; Kind, Lsn, Link, Slots, Get, Seal, Sealed, SetLsn, SetLink. -/
import Derived.Test.YtfdedkcidemimaaDoorPgA
import Derived.Test.YtfdedkcidemimaaDoorLibAll
namespace Go.Proofs.YtfdedkcidemimaaDoor
set_option linter.unusedVariables false
open Go.ChangeShapes Go.WideShapes Go.ChangeAt Go.RowKit

theorem slotS_le {s t : Nat × Bool} {x : Nat × Nat} (h : slotS s x = some t) : t.1 ≤ s.1 ∧ x.2 ≤ 400 ∧ (x.1 + x.2 ≤ s.1) := by
  obtain ⟨a, z⟩ := x
  dsimp only [slotS] at h
  by_cases hA : a = 0 ∧ z = 0
  · rw [if_pos hA] at h
    obtain rfl := Option.some.inj h
    dsimp only
    omega
  · rw [if_neg hA] at h
    by_cases hB : z < 1 ∨ 400 < z ∨ a + z ≠ s.1
    · rw [if_pos hB] at h; cases h
    · rw [if_neg hB] at h
      obtain rfl := Option.some.inj h
      dsimp only
      omega
theorem chk_none' {l : List (Nat × Nat)} {j k : Nat} (hj : j ≤ k) (h : chk (l.take j) = none) : chk (l.take k) = none := by
  have e : (l.take k).take j = l.take j := by rw [List.take_take, Nat.min_eq_left hj]
  exact chk_none (l := l.take k) (k := j) (by rw [e]; exact h)
theorem chk_le (l : List (Nat × Nat)) : ∀ (k : Nat) (s : Nat × Bool), chk (l.take k) = some s → s.1 ≤ 512
  | 0, s, h => by
    have : chk (l.take 0) = some (512, true) := rfl
    rw [this] at h
    obtain rfl := Option.some.inj h
    exact Nat.le_refl _
  | k + 1, s, h => by
    cases hc : chk (l.take k) with
    | none => rw [chk_none' (Nat.le_succ k) hc] at h; cases h
    | some t =>
      have ih := chk_le l k t hc
      cases hx : l[k]? with
      | none =>
        have hl : l.length ≤ k := by rw [List.getElem?_eq_none_iff] at hx; exact hx
        rw [List.take_of_length_le (by omega)] at h
        rw [List.take_of_length_le hl] at hc
        rw [hc] at h
        obtain rfl := Option.some.inj h
        exact ih
      | some x =>
        rw [chk_step hx hc] at h
        have := (slotS_le h).1
        omega
theorem chk_in {l : List (Nat × Nat)} {s : Nat × Bool} (h : chk l = some s) {i : Nat} {x : Nat × Nat} (hx : l[i]? = some x) : x.2 ≤ 400 ∧ x.1 + x.2 ≤ 512 := by
  cases hc : chk (l.take i) with
  | none => rw [chk_none hc] at h; cases h
  | some t =>
    have h1 := chk_le l i t hc
    cases hd : chk (l.take (i + 1)) with
    | none => rw [chk_none hd] at h; cases h
    | some u =>
      rw [chk_step hx hc] at hd
      have := slotS_le hd
      omega
/-- What is right of a right page. -/
structure RightP (p : ByteArray) : Prop where
  size : p.size = 512
  kind : bN p 10 ≤ 4
  zero : bN p 11 = 0
  gap : 19 + 4 * shN p 15 ≤ shN p 17
  beg : shN p 17 ≤ 512
  zs : (p.extract (19 + 4 * shN p 15) (shN p 17)).toList = (zrs (shN p 17 - (19 + 4 * shN p 15))).toList
  slots : chk (slotsN p (shN p 15)) = some (shN p 17, true)
theorem rightP_iff (p : ByteArray) : rightB p = true ↔ RightP p := by
  constructor
  · intro h
    unfold rightB at h
    simp only [Bool.and_eq_true, decide_eq_true_eq, beq_iff_eq] at h
    obtain ⟨⟨⟨⟨⟨⟨h1, h2⟩, h3⟩, h4⟩, h5⟩, h6⟩, h7⟩ := h
    exact ⟨h1, h2, h3, h4, h5, h6, h7⟩
  · intro h
    unfold rightB
    simp only [Bool.and_eq_true, decide_eq_true_eq, beq_iff_eq]
    exact ⟨⟨⟨⟨⟨⟨h.size, h.kind⟩, h.zero⟩, h.gap⟩, h.beg⟩, h.zs⟩, h.slots⟩
theorem RightP.slot {p : ByteArray} (h : RightP p) {i : Nat} (hi : i < shN p 15) : shN p (21 + 4 * i) ≤ 400 ∧ shN p (19 + 4 * i) + shN p (21 + 4 * i) ≤ 512 := chk_in h.slots (slotsN_at p hi)
theorem RightP.near {p : ByteArray} (h : RightP p) {i : Nat} (hi : i < shN p 15) : 22 + 4 * i < p.size := by have := h.size; have := h.gap; have := h.beg; omega

def kindS (p : ByteArray) : Nat := if rightB p then bN p 10 else 0
def lsnS (p : ByteArray) : Int := if rightB p then (getP p 4 6).1 else 0
def linkS (p : ByteArray) : Int := if rightB p then (getP p 12 3).1 else 0
def slotsS (p : ByteArray) : Nat := if rightB p then shN p 15 else 0
def recAt (p : ByteArray) (i : Nat) : ByteArray := p.extract (shN p (19 + 4 * i)) (shN p (19 + 4 * i) + shN p (21 + 4 * i))
def getS (p : ByteArray) (s : Int) : ByteArray × Bool := if rightB p = true ∧ 0 ≤ s ∧ s.toNat < shN p 15 ∧ shN p (21 + 4 * s.toNat) ≠ 0 then (recAt p s.toNat, true) else (⟨#[]⟩, false)
theorem right_q (p : ByteArray) (hm : p.size ≤ 4000) {b : Bool} (hr : rightB p = b) (W : World) : Calls Tryd.prog 12 #[.string p] W fun e w' => e = .returned (.bool b) ∧ Below W.heap.size W w' := hr ▸ right_c p hm W
theorem kind_c (p : ByteArray) (hm : p.size ≤ 4000) (w : World) : Calls Tryd.prog 14 #[.string p] w fun e w' => e = .returned (.int .i64 (kindS p)) ∧ Below w.heap.size w w' := by
  unfold kindS
  cases hr : rightB p with
  | false =>
    have Q := hide (right_q p hm hr)
    clear hr
    go_enter Tryd.func14, Tryd.ntmps14
    go_wp2_with fail
    refine (Q.out _).mono ?_
    rintro e w4 ⟨rfl, hb⟩
    go_wp2_with fail
    go_ret
    exact ⟨rfl, hb⟩
  | true =>
    have Q := hide (right_q p hm hr)
    have R := (rightP_iff p).mp hr
    have g10 : 10 < p.size := by have := R.size; omega
    have b10 : bN p 10 = (p[10]'g10).toNat := bN_in g10
    have i10 : (10 : Int) < p.size := by omega
    have i10b : ((p[10]'g10).toNat : Int) < 256 := by have := bN_lt p 10; rw [b10] at this; omega
    have wk : IntKind.i64.wrap ((p[10]'g10).toNat : Int) = ((p[10]'g10).toNat : Int) := IntWalk.i64_in _ (by omega)
    rw [if_pos rfl, b10]
    clear hr R b10
    go_enter Tryd.func14, Tryd.ntmps14
    go_wp2_with fail
    refine (Q.out _).mono ?_
    rintro e w4 ⟨rfl, hb⟩
    go_wp2_with fail
    go_ret
    exact ⟨rfl, hb⟩
theorem lsn_c (p : ByteArray) (hm : p.size ≤ 4000) (w : World) : Calls Tryd.prog 16 #[.string p] w fun e w' => e = .returned (.int .i64 (lsnS p)) ∧ Below w.heap.size w w' := by
  unfold lsnS
  cases hr : rightB p with
  | false =>
    have Q := hide (right_q p hm hr)
    clear hr
    go_enter Tryd.func16, Tryd.ntmps16
    go_wp2_with fail
    refine (Q.out _).mono ?_
    rintro e w4 ⟨rfl, hb⟩
    go_wp2_with fail
    go_ret
    exact ⟨rfl, hb⟩
  | true =>
    have Q := hide (right_q p hm hr)
    have Q2 := hide (fun W => number_c p 4 6 hm W)
    rw [if_pos rfl]
    generalize getP p 4 6 = g at *
    clear hr
    go_enter Tryd.func16, Tryd.ntmps16
    go_wp2_with fail
    refine (Q.out _).mono ?_
    rintro e w4 ⟨rfl, hb⟩
    have HB := hide hb
    clear hb
    go_wp2_with fail
    refine (Q2.out _).mono ?_
    rintro e w5 ⟨rfl, rfl⟩
    go_wp2_with fail
    go_ret
    exact ⟨rfl, HB.out⟩
theorem link_c (p : ByteArray) (hm : p.size ≤ 4000) (w : World) : Calls Tryd.prog 18 #[.string p] w fun e w' => e = .returned (.int .i64 (linkS p)) ∧ Below w.heap.size w w' := by
  unfold linkS
  cases hr : rightB p with
  | false =>
    have Q := hide (right_q p hm hr)
    clear hr
    go_enter Tryd.func18, Tryd.ntmps18
    go_wp2_with fail
    refine (Q.out _).mono ?_
    rintro e w4 ⟨rfl, hb⟩
    go_wp2_with fail
    go_ret
    exact ⟨rfl, hb⟩
  | true =>
    have Q := hide (right_q p hm hr)
    have Q2 := hide (fun W => number_c p 12 3 hm W)
    rw [if_pos rfl]
    generalize getP p 12 3 = g at *
    clear hr
    go_enter Tryd.func18, Tryd.ntmps18
    go_wp2_with fail
    refine (Q.out _).mono ?_
    rintro e w4 ⟨rfl, hb⟩
    have HB := hide hb
    clear hb
    go_wp2_with fail
    refine (Q2.out _).mono ?_
    rintro e w5 ⟨rfl, rfl⟩
    go_wp2_with fail
    go_ret
    exact ⟨rfl, HB.out⟩
theorem slots_c (p : ByteArray) (hm : p.size ≤ 4000) (w : World) : Calls Tryd.prog 20 #[.string p] w fun e w' => e = .returned (.int .i64 (slotsS p)) ∧ Below w.heap.size w w' := by
  unfold slotsS
  cases hr : rightB p with
  | false =>
    have Q := hide (right_q p hm hr)
    clear hr
    go_enter Tryd.func20, Tryd.ntmps20
    go_wp2_with fail
    refine (Q.out _).mono ?_
    rintro e w4 ⟨rfl, hb⟩
    go_wp2_with fail
    go_ret
    exact ⟨rfl, hb⟩
  | true =>
    have Q := hide (right_q p hm hr)
    have R := (rightP_iff p).mp hr
    have Q2 := hide (fun W => short_b p 15 (by have := R.size; omega) hm W)
    rw [if_pos rfl]
    generalize shN p 15 = g at *
    clear hr R
    go_enter Tryd.func20, Tryd.ntmps20
    go_wp2_with fail
    refine (Q.out _).mono ?_
    rintro e w4 ⟨rfl, hb⟩
    have HB := hide hb
    clear hb
    go_wp2_with fail
    refine (Q2.out _).mono ?_
    rintro e w5 ⟨rfl, hb⟩
    replace HB := hide (Bel.then HB.out hb)
    go_wp2_with fail
    go_ret
    exact ⟨rfl, HB.out⟩
def sealS (p : ByteArray) : ByteArray := if rightB p then sealP (p.extract 4 p.size) else ⟨#[]⟩
theorem seal_p (p : ByteArray) (hm : p.size ≤ 4000) (w : World) (hT : ∀ W, Below w.heap.size w W → TabW W) : Calls Tryd.prog 28 #[.string p] w fun e w' => e = .returned (.string (sealS p)) ∧ Below w.heap.size w w' := by
  have HT := hide hT
  clear hT
  unfold sealS
  cases hr : rightB p with
  | false =>
    have Q := hide (right_q p hm hr)
    clear hr
    go_enter Tryd.func28, Tryd.ntmps28
    go_wp2_with fail
    refine (Q.out _).mono ?_
    rintro e w4 ⟨rfl, hb⟩
    go_wp2_with fail
    go_ret
    exact ⟨rfl, hb⟩
  | true =>
    have Q := hide (right_q p hm hr)
    have R := (rightP_iff p).mp hr
    have Q2 := hide (fun W (hW : TabW W) => seal_c (p.extract 4 p.size) (by rw [ByteArray.size_extract]; omega) W hW)
    have h4 : (4 : Int) ≤ p.size := by have := R.size; omega
    rw [if_pos rfl]
    generalize sealP (p.extract 4 p.size) = g at *
    clear hr R
    go_enter Tryd.func28, Tryd.ntmps28
    go_wp2_with fail
    refine (Q.out _).mono ?_
    rintro e w4 ⟨rfl, hb⟩
    have HB := hide hb
    clear hb
    go_wp2_with fail
    refine (Q2.out _ (HT.out _ HB.out)).mono ?_
    rintro e w5 ⟨rfl, hb⟩
    replace HB := hide (Bel.then HB.out hb)
    go_wp2_with fail
    go_ret
    exact ⟨rfl, HB.out⟩
def sealedS (p : ByteArray) : Bool := (openP p).2 && rightB p
theorem sealed_c (p : ByteArray) (hm : p.size ≤ 4000) (w : World) (hT : TabW w) : Calls Tryd.prog 26 #[.string p] w fun e w' => e = .returned (.bool (sealedS p)) ∧ Below w.heap.size w w' := by
  unfold sealedS
  have Q1 := hide (fun W hW => open_c p (by omega) W hW)
  have Q2 := hide (fun W => right_c p hm W)
  generalize openP p = o at *
  generalize rightB p = r at *
  obtain ⟨o1, o2⟩ := o
  have HT := hide hT
  clear hT
  cases o2 with
  | false =>
    go_enter Tryd.func26, Tryd.ntmps26
    go_wp2_with fail
    refine (Q1.out _ HT.out).mono ?_
    rintro e w4 ⟨rfl, rfl⟩
    go_wp2_with fail
    go_ret
    exact ⟨rfl, Below.refl _ _⟩
  | true =>
    go_enter Tryd.func26, Tryd.ntmps26
    go_wp2_with fail
    refine (Q1.out _ HT.out).mono ?_
    rintro e w4 ⟨rfl, rfl⟩
    go_wp2_with fail
    refine (Q2.out _).mono ?_
    rintro e w5 ⟨rfl, hb⟩
    cases r
    all_goals
      go_wp2_with fail
      go_ret
      exact ⟨rfl, hb⟩
end Go.Proofs.YtfdedkcidemimaaDoor

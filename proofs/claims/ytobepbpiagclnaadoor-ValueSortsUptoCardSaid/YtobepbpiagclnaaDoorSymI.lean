/- The contracts of the reference's place and Times. -/
import Derived.Test.YtobepbpiagclnaaDoorSymH
import Derived.Deep.Cut
namespace Go.Proofs.YtobepbpiagclnaaDoor
set_option linter.unusedVariables false
open Go.ChangeShapes Go.WideShapes Go.ChangeAt Go.RowKit

theorem placeF_le : ∀ (l : List (List ValV)) (r : List ValV), placeF l r ≤ l.length
  | [], _ => Nat.le_refl _
  | a :: l, r => by
    rw [placeF]
    split
    · have := placeF_le l r; simp; omega
    · simp
theorem placeF_at {l : List (List ValV)} {r : List ValV} {k : Nat} {a : List ValV} (h : l[k]? = some a) : placeF (l.drop k) r = if cmpR a r ≤ 0 then placeF (l.drop (k + 1)) r + 1 else 0 := by
  rw [drop_at h, placeF]
theorem timesF_at {l : List (List ValV)} {r : List ValV} {k : Nat} {a : List ValV} (h : l[k]? = some a) : timesF (l.take (k + 1)) r = timesF (l.take k) r + if cmpR a r = 0 then 1 else 0 := by
  rw [take_at h]
  unfold timesF
  rw [List.countP_append]
  by_cases hz : cmpR a r = 0 <;> simp [hz]
theorem timesF_le (l : List (List ValV)) (r : List ValV) : timesF l r ≤ l.length := List.countP_le_length
set_option maxRecDepth 100000 in
set_option maxHeartbeats 2000000 in
theorem place_c (A A2 : Option Addr) (n c n2 c2 : Nat) (ps : List HRow) (r : List ValV) (w : World) (h : HsAt w A n c ps) (h2 : RowAt w w.heap.size A2 n2 c2 r) (g : ∀ p ∈ ps, StrsOk p.2) (g2 : StrsOk r) :
    Calls Tryd.prog 23 #[.slice A n c, .slice A2 n2 c2] w fun e w' => e = .returned (.int .i64 (placeF (sndL ps) r)) ∧ Below w.heap.size w w' := by
  have HP := hide h
  have HR := hide h2
  have HG := hide g
  have HG2 := hide g2
  have hl := h.sl.len
  have hsl : (sndL ps).length = n := by show (ps.map Prod.snd).length = n; rw [List.length_map]; exact hl
  have m1 := Nat.le_trans h.sl.cap h.sl.max
  unfold maxLen at m1
  obtain ⟨F, hF⟩ : ∃ F, placeF (sndL ps) r = F := ⟨_, rfl⟩
  have HF := hide hF
  rw [hF]
  clear h h2 g g2 hF
  go_enter Tryd.func23, Tryd.ntmps23
  go_wp2_with fail
  go_loopw [5] (fun i wr => ∃ k : Nat, k ≤ n ∧ i = .int .i64 k ∧ Hid (k + placeF ((sndL ps).drop k) r = F) ∧ Hid (Below w.heap.size w wr)) (fun i _ => n - (intOf i).toNat)
  case atStart => exact ⟨0, Nat.zero_le _, rfl, by have := HF.out; show _ = _; rw [Nat.zero_add]; exact this, Below.refl _ _⟩
  case round =>
    obtain ⟨k, hkn, rfl, HE, HB⟩ := hrel
    by_cases hlt : k < n
    · have hlti : (k : Int) < n := by omega
      have f0 : decide ((k : Int) < (n : Int)) = true := decide_eq_true hlti
      have hwk : IntKind.i64.wrap ((k : Int) + 1) = (k : Int) + 1 := IntWalk.i64_in _ (by omega)
      obtain ⟨b, off, p, rfl, hp, Ha⟩ := (HP.out.kept HB.out).head hlt
      have hsi : (sndL ps)[k]? = some p.2 := by show (ps.map Prod.snd)[k]? = _; rw [List.getElem?_map, hp]; rfl
      have Q := hide (fun (W : World) (hW : Below w.heap.size w W) => rorders_c p.1.A A2 p.1.n p.1.c n2 c2 p.2 r W ((HP.out.kept hW).each p (List.mem_of_getElem? hp)) (HR.out.kept hW) (HG.out p (List.mem_of_getElem? hp)) HG2.out)
      have hE := HE.out
      rw [placeF_at hsi] at hE
      have HT : Hid (cmpR p.2 r ≤ 0 → (k + 1) + placeF ((sndL ps).drop (k + 1)) r = F) := fun hz => by rw [if_pos hz] at hE; omega
      have HX : Hid (¬ cmpR p.2 r ≤ 0 → k = F) := fun hz => by rw [if_neg hz] at hE; omega
      clear HE hp hsi hE
      generalize cmpR p.2 r = x at *
      generalize p.1.A = pA at *
      generalize p.1.n = pn at *
      generalize p.1.c = pc at *
      obtain ⟨_, a_0⟩ := Ha
      go_wp2_with fail
      refine (Q.out _ HB.out).mono ?_
      rintro e w1 ⟨rfl, hb⟩
      replace HB := hide (Bel.then HB.out hb)
      clear hb Q a_0
      by_cases hx : x ≤ 0
      · have hq : decide (x ≤ 0) = true := decide_eq_true hx
        have HY := hide (HT.out hx)
        clear HT HX
        go_wp2_with fail
        go_roundw
        case rel => exact ⟨k + 1, by omega, by go_num, HY, HB⟩
        case measure => simp [intOf]; omega
      · have hq : decide (x ≤ 0) = false := decide_eq_false hx
        replace hx : 0 < x := by omega
        have HY := hide (HX.out hx)
        clear HT HX
        go_wp2_with fail
        go_ret
        exact ⟨by first | rfl | (rw [HY.out]; rfl), HB.out⟩
    · have hlti : ¬ (k : Int) < n := by omega
      have f1 : decide ((k : Int) < (n : Int)) = false := decide_eq_false hlti
      have HY : Hid (k = F) := by
        have := HE.out
        rw [List.drop_of_length_le (by omega)] at this
        exact this
      clear HE
      go_wp2_with fail
      go_ret
      exact ⟨by first | rfl | (rw [HY.out]; rfl), HB.out⟩
set_option maxRecDepth 100000 in
set_option maxHeartbeats 2000000 in
theorem times_c (A A2 : Option Addr) (n c n2 c2 : Nat) (ps : List HRow) (r : List ValV) (w : World) (h : HsAt w A n c ps) (h2 : RowAt w w.heap.size A2 n2 c2 r) (g : ∀ p ∈ ps, StrsOk p.2) (g2 : StrsOk r) :
    Calls Tryd.prog 25 #[.slice A n c, .slice A2 n2 c2] w fun e w' => e = .returned (.int .i64 (timesF (sndL ps) r)) ∧ Below w.heap.size w w' := by
  have HP := hide h
  have HR := hide h2
  have HG := hide g
  have HG2 := hide g2
  have hl := h.sl.len
  have hsl : (sndL ps).length = n := by show (ps.map Prod.snd).length = n; rw [List.length_map]; exact hl
  have m1 := Nat.le_trans h.sl.cap h.sl.max
  unfold maxLen at m1
  clear h h2 g g2
  go_enter Tryd.func25, Tryd.ntmps25
  go_wp2_with fail
  go_loopw [5, 6] (fun nv i wr => ∃ k m : Nat, k ≤ n ∧ m ≤ k ∧ i = .int .i64 k ∧ nv = .int .i64 m ∧ Hid (timesF ((sndL ps).take k) r = m) ∧ Hid (Below w.heap.size w wr)) (fun _ i _ => n - (intOf i).toNat)
  case atStart => exact ⟨0, 0, Nat.zero_le _, Nat.zero_le _, rfl, rfl, rfl, Below.refl _ _⟩
  case round =>
    obtain ⟨k, m, hkn, hmk, rfl, rfl, HE, HB⟩ := hrel
    by_cases hlt : k < n
    · have hlti : (k : Int) < n := by omega
      have hwk : IntKind.i64.wrap ((k : Int) + 1) = (k : Int) + 1 := IntWalk.i64_in _ (by omega)
      have hwm : IntKind.i64.wrap ((m : Int) + 1) = (m : Int) + 1 := IntWalk.i64_in _ (by omega)
      obtain ⟨b, off, p, rfl, hp, Ha⟩ := (HP.out.kept HB.out).head hlt
      have hsi : (sndL ps)[k]? = some p.2 := by show (ps.map Prod.snd)[k]? = _; rw [List.getElem?_map, hp]; rfl
      have Q := hide (fun (W : World) (hW : Below w.heap.size w W) => rorders_c p.1.A A2 p.1.n p.1.c n2 c2 p.2 r W ((HP.out.kept hW).each p (List.mem_of_getElem? hp)) (HR.out.kept hW) (HG.out p (List.mem_of_getElem? hp)) HG2.out)
      have hE := timesF_at (r := r) hsi
      rw [HE.out] at hE
      have HT : Hid (cmpR p.2 r = 0 → timesF ((sndL ps).take (k + 1)) r = m + 1) := fun hz => by rw [hE, if_pos hz]
      have HX : Hid (¬ cmpR p.2 r = 0 → timesF ((sndL ps).take (k + 1)) r = m) := fun hz => by rw [hE, if_neg hz]; rfl
      clear HE hp hsi hE
      generalize cmpR p.2 r = x at *
      generalize p.1.A = pA at *
      generalize p.1.n = pn at *
      generalize p.1.c = pc at *
      obtain ⟨_, a_0⟩ := Ha
      go_wp2_with fail
      refine (Q.out _ HB.out).mono ?_
      rintro e w1 ⟨rfl, hb⟩
      replace HB := hide (Bel.then HB.out hb)
      clear hb Q
      by_cases hx : x = 0
      · have HY := hide (HT.out hx)
        have f1 : (x == 0) = true := by simp [hx]
        clear HT HX hx
        go_wp2_with fail
        go_roundw
        case rel => exact ⟨k + 1, m + 1, by omega, by omega, by go_num, by go_num, HY, HB⟩
        case measure => simp [intOf]; omega
      · have HY := hide (HX.out hx)
        have f1 : (x == 0) = false := by simp [hx]
        clear HT HX hx
        go_wp2_with fail
        go_roundw
        case rel => exact ⟨k + 1, m, by omega, by omega, by go_num, rfl, HY, HB⟩
        case measure => simp [intOf]; omega
    · have hlti : ¬ (k : Int) < n := by omega
      obtain rfl : k = n := by omega
      have HY : Hid (timesF (sndL ps) r = m) := by
        have := HE.out
        rw [List.take_of_length_le (by omega)] at this
        exact this
      clear HE
      go_wp2_with fail
      go_ret
      exact ⟨by first | rfl | (rw [HY.out]; rfl), HB.out⟩
end Go.Proofs.YtobepbpiagclnaaDoor

/- The contract of the law's small. -/
import Derived.Test.YtahdkfenpflahaaSoR
namespace Go.Proofs.Ytahdkfenpflahaa
set_option linter.unusedVariables false
open Go.ChangeShapes Go.WideShapes Go.ChangeAt Go.RowKit

def GivesSmall (w : World) (n : Nat) (ps : List HRow) (e : Ending) (w' : World) : Prop := ∃ q : Bool, e = .returned (.bool q) ∧ (q = true → n ≤ 60 ∧ ∀ p ∈ ps, p.2.length ≤ 40) ∧ Below w.heap.size w w'
set_option maxHeartbeats 1000000 in
theorem small_c (A : Option Addr) (n c : Nat) (ps : List HRow) (w : World) (h : HsAt w A n c ps) :
    Calls Try.prog 13 #[.slice A n c] w (GivesSmall w n ps) := by
  have HP := hide h
  have hl := h.sl.len
  have m1 := Nat.le_trans h.sl.cap h.sl.max
  unfold maxLen at m1
  clear h
  go_enter Try.func13, Try.ntmps13
  by_cases g1 : 60 < n
  · have g1i : (60 : Int) < n := by omega
    go_wp2_with fail
    go_ret
    exact ⟨false, rfl, (by intro e; cases e), Below.refl _ _⟩
  have g1i : ¬ (60 : Int) < n := by omega
  go_wp2_with fail
  go_loopw [3] (fun i wr => ∃ k : Nat, k ≤ n ∧ i = .int .i64 k ∧ Hid (∀ p ∈ ps.take k, p.2.length ≤ 40) ∧ Hid (Below w.heap.size w wr)) (fun i _ => n - (intOf i).toNat)
  case atStart => exact ⟨0, Nat.zero_le _, rfl, (by intro p hp; simp at hp), Below.refl _ _⟩
  case round =>
    obtain ⟨k, hkn, rfl, HA, HB⟩ := hrel
    by_cases hlt : k < n
    · have hlti : (k : Int) < n := by omega
      have hwk : IntKind.i64.wrap ((k : Int) + 1) = (k : Int) + 1 := IntWalk.i64_in _ (by omega)
      obtain ⟨b, off, p, rfl, hb, hp, hc⟩ := (HP.out.kept HB.out).cell hlt
      have hpn : p.2.length = p.1.n := (HP.out.each p (List.mem_of_getElem? hp)).len
      unfold hdV at hc
      by_cases g2 : 40 < p.1.n
      · have g2i : (40 : Int) < p.1.n := by omega
        clear HA hp hpn
        generalize p.1.n = pn at *
        generalize p.1.A = pA at *
        generalize p.1.c = pc at *
        go_wp2_with fail
        go_ret
        exact ⟨false, rfl, (by intro e; cases e), HB.out⟩
      · have g2i : ¬ (40 : Int) < p.1.n := by omega
        have HA2 : Hid (∀ q ∈ ps.take (k + 1), q.2.length ≤ 40) := fun q hq => by
          rw [take_at hp] at hq
          rcases List.mem_append.1 hq with hq | hq
          · exact HA.out q hq
          · rw [List.mem_singleton.1 hq]; omega
        clear HA hp hpn
        generalize p.1.n = pn at *
        generalize p.1.A = pA at *
        generalize p.1.c = pc at *
        go_wp2_with fail
        go_roundw
        case rel => exact ⟨k + 1, by omega, by go_num, HA2, HB⟩
        case measure => simp [intOf]; omega
    · have hlti : ¬ (k : Int) < n := by omega
      have HX : Hid (∀ p ∈ ps, p.2.length ≤ 40) := fun p hp => HA.out p (by rw [List.take_of_length_le (by omega)]; exact hp)
      clear HA
      go_wp2_with fail
      go_ret
      exact ⟨true, rfl, fun _ => ⟨by omega, HX.out⟩, HB.out⟩
end Go.Proofs.Ytahdkfenpflahaa

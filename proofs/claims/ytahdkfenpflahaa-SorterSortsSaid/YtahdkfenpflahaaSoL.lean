/- The contract of the reference's All. -/
import Derived.Test.YtahdkfenpflahaaSoK
import Derived.BigQuiet
namespace Go.Proofs.Ytahdkfenpflahaa
set_option linter.unusedVariables false
open Go.ChangeShapes Go.WideShapes Go.ChangeAt Go.RowKit

def GivesAll (w : World) (ps : List HRow) (ks : List (Int × Bool)) (e : Ending) (w' : World) : Prop := ∃ q : Bool, e = .returned (.bool q) ∧ (q = true → ∀ p ∈ ps, AllK ks p.2) ∧ Below w.heap.size w w'
set_option maxRecDepth 100000 in
set_option maxHeartbeats 2000000 in
theorem All_c (A A3 : Option Addr) (n c n3 c3 : Nat) (ps : List HRow) (ks : List (Int × Bool)) (w : World) (h : HsAt w A n c ps) (hk : KeysAt w w.heap.size A3 n3 c3 ks) :
    Calls Try.prog 11 #[.slice A n c, .slice A3 n3 c3] w (GivesAll w ps ks) := by
  have HP := hide h
  have HK := hide hk
  have hl := h.sl.len
  have hl3 := hk.len
  have m1 := Nat.le_trans h.sl.cap h.sl.max
  have m3 := Nat.le_trans hk.cap hk.max
  unfold maxLen at m1 m3
  clear h hk
  go_enter Try.func11, Try.ntmps11
  go_wp2_with fail
  go_loopw [5] (fun i wr => ∃ k : Nat, k ≤ n ∧ i = .int .i64 k ∧ Hid (∀ p ∈ ps.take k, AllK ks p.2) ∧ Hid (Below w.heap.size w wr)) (fun i _ => n - (intOf i).toNat)
  case atStart => exact ⟨0, Nat.zero_le _, rfl, (by intro p hp; simp at hp), Below.refl _ _⟩
  case round =>
    obtain ⟨k, hkn, rfl, HA, HB⟩ := hrel
    by_cases hlt : k < n
    · have hlti : (k : Int) < n := by omega
      have hwk : IntKind.i64.wrap ((k : Int) + 1) = (k : Int) + 1 := IntWalk.i64_in _ (by omega)
      obtain ⟨b, off, p, rfl, hb, hp, _⟩ := HP.out.cell hlt
      obtain ⟨pm, hpm⟩ : ∃ m, p.2.length = m := ⟨_, rfl⟩
      have hpn : p.1.n = pm := by rw [← hpm]; exact (HP.out.each p (List.mem_of_getElem? hp)).len.symm
      have HN : Hid (AllK ks p.2 → ∀ q ∈ ps.take (k + 1), AllK ks q.2) := fun ha q hq => by
        rw [take_at hp] at hq
        rcases List.mem_append.1 hq with hq | hq
        · exact HA.out q hq
        · rw [List.mem_singleton.1 hq]; exact ha
      clear HA
      go_wp2_with fail
      go_loopw [6] (fun i wr => ∃ j : Nat, j ≤ n3 ∧ i = .int .i64 j ∧ Hid (∀ q ∈ ks.take j, 0 ≤ q.1 ∧ q.1 < pm) ∧ Hid (Below w.heap.size w wr)) (fun i _ => n3 - (intOf i).toNat)
      case atStart => exact ⟨0, Nat.zero_le _, rfl, (by intro q hq; simp at hq), HB⟩
      case round =>
        clear HB
        obtain ⟨j, hj, rfl, HA, HB⟩ := hrel
        by_cases hjt : j < n3
        · have hjti : (j : Int) < n3 := by omega
          have hwj : IntKind.i64.wrap ((j : Int) + 1) = (j : Int) + 1 := IntWalk.i64_in _ (by omega)
          obtain ⟨kb, koff, a, d, rfl, hkb, hka, k0, k1⟩ := KeysAt.key (HK.out.below HB.out) hjt
          obtain ⟨b', off', p', he, hb', hp', hc⟩ := (HP.out.kept HB.out).cell hlt
          injection he with he
          injection he with he1 he2
          subst he1 he2
          rw [hp] at hp'
          injection hp' with hp'
          subst hp'
          unfold hdV at hc
          rw [hpn] at hc
          generalize p.1.A = pA at *
          generalize p.1.c = pc at *
          by_cases g1 : a < 0
          · have f1 : decide (a < 0) = true := decide_eq_true g1
            clear HN hka HA
            go_upto_region 7 with (fail)
            go_quiet (fail)
            go_wp2_with fail
            go_ret
            exact ⟨false, rfl, (by intro e; cases e), Bel.drewN HB.out _⟩
          have f1 : decide (a < 0) = false := decide_eq_false g1
          by_cases g2 : (pm : Int) ≤ a
          · have f2 : decide ((pm : Int) ≤ a) = true := decide_eq_true g2
            clear HN hka HA
            go_upto_region 7 with (fail)
            go_quiet (fail)
            go_wp2_with fail
            go_ret
            exact ⟨false, rfl, (by intro e; cases e), Bel.drewN HB.out _⟩
          · have f2 : decide ((pm : Int) ≤ a) = false := decide_eq_false g2
            have HA2 : Hid (∀ q ∈ ks.take (j + 1), 0 ≤ q.1 ∧ q.1 < pm) := fun q hq => by
              rw [take_at hka] at hq
              rcases List.mem_append.1 hq with hq | hq
              · exact HA.out q hq
              · rw [List.mem_singleton.1 hq]; exact ⟨by simp only; omega, by simp only; omega⟩
            clear hka HA
            go_upto_region 7 with (fail)
            go_quiet (fail)
            go_wp2_with fail
            go_roundw
            case rel => exact ⟨j + 1, by omega, by go_num, HA2, Bel.drewN HB.out _⟩
            case measure => simp [intOf]; omega
        · have hjti : ¬ (j : Int) < n3 := by omega
          have HX := hide (HN.out (fun q hq => by rw [hpm]; exact HA.out q (by rw [List.take_of_length_le (by omega)]; exact hq)))
          clear HN HA
          go_wp2_with fail
          go_roundw
          case rel => exact ⟨k + 1, by omega, by go_num, HX, HB⟩
          case measure => simp [intOf]; omega
    · have hlti : ¬ (k : Int) < n := by omega
      have HX : Hid (∀ p ∈ ps, AllK ks p.2) := fun p hp => HA.out p (by rw [List.take_of_length_le (by omega)]; exact hp)
      clear HA
      go_wp2_with fail
      go_ret
      exact ⟨true, rfl, fun _ => HX.out, HB.out⟩
end Go.Proofs.Ytahdkfenpflahaa

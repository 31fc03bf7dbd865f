/- The contract of like.fits. -/
import Derived.Test.YtlkeghfdpbfhbaaLkC
namespace Go.Proofs.Ytlkeghfdpbfhbaa
set_option linter.unusedVariables false
open Go.ChangeShapes Go.WideShapes Go.ChangeAt Go.RowKit

def fitsAt (l : List Sg) (i : Nat) (c : UInt8) : Bool := match l[i]? with
  | some g => g.fits c
  | none => false
theorem fits_c (A : Option Addr) (n c : Nat) (l : List Sg) (i : Nat) (x : UInt8) (w : World) (B : Nat) (h : SlAt elC 2 w B A n c l) (hn : n ≤ 1048576) :
    Calls Try.prog 89 #[.slice A n c, .int .i64 (i : Int), .int .u8 x.toNat] w fun e w' => e = .returned (.bool (fitsAt l i x)) ∧ w = w' := by
  by_cases hi : i < n
  · obtain ⟨b, off, g, rfl, _, hg, hc⟩ := h.at (by omega) hi
    have hii : (i : Int) < n := by omega
    have hx : fitsAt l i x = g.fits x := by unfold fitsAt; rw [hg]
    rw [hx]
    clear h hg hx
    cases g with
    | byte y =>
      have h0 := hc 0 _ rfl
      have h1 := hc 1 _ rfl
      have hq : ((y.toNat : Int) == (x.toNat : Int)) = (y == x) := by
        rw [Bool.eq_iff_iff, beq_iff_eq, beq_iff_eq]
        exact ⟨fun e => UInt8.toNat_inj.1 (by omega), fun e => by rw [e]⟩
      have hf : (Sg.byte y).fits x = (y == x) := rfl
      rw [hf]
      rw [Nat.add_zero] at h0
      rw [← Nat.add_assoc] at h1
      clear hc hf
      generalize (y == x) = q at *
      cases q
      all_goals
        go_enter Try.func89, Try.ntmps89
        go_wp2
        go_ret
        exact ⟨rfl, rfl⟩
    | one =>
      have h0 := hc 0 _ rfl
      have h1 := hc 1 _ rfl
      rw [Nat.add_zero] at h0
      clear hc
      go_enter Try.func89, Try.ntmps89
      go_wp2
      go_ret
      exact ⟨rfl, rfl⟩
    | all =>
      have h0 := hc 0 _ rfl
      have h1 := hc 1 _ rfl
      rw [Nat.add_zero] at h0
      clear hc
      go_enter Try.func89, Try.ntmps89
      go_wp2
      go_ret
      exact ⟨rfl, rfl⟩
  · have hii : ¬ (i : Int) < n := by omega
    have hl := h.len
    have hx : fitsAt l i x = false := by unfold fitsAt; rw [List.getElem?_eq_none (by omega)]
    rw [hx]
    clear h hl hx
    go_enter Try.func89, Try.ntmps89
    go_wp2
    go_ret
    exact ⟨rfl, rfl⟩
end Go.Proofs.Ytlkeghfdpbfhbaa

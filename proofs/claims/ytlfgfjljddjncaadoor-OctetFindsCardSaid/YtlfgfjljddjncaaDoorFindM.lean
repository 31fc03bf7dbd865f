/- Towards OctetFinds: a step of the checksum is linear, and gives 0 at 0 alone; so is the sum of a text of differences. No walk. -/
import Derived.Test.YtlfgfjljddjncaaDoorSumM
namespace Go.Proofs.YtlfgfjljddjncaaDoor
set_option linter.unusedVariables false
open Go.ChangeShapes Go.WideShapes Go.ChangeAt Go.RowKit

theorem xor_four (a b c d : Nat) : (a ^^^ b) ^^^ (c ^^^ d) = (a ^^^ c) ^^^ (b ^^^ d) := by
  rw [Nat.xor_assoc, Nat.xor_assoc, ← Nat.xor_assoc b c d, Nat.xor_comm b c, Nat.xor_assoc c b d]
theorem par_xor (a b : Nat) : (a ^^^ b) % 2 = (a % 2) ^^^ (b % 2) := by
  have h2 := Nat.xor_mod_two_pow (a := a) (b := b) (n := 1)
  simpa only [Nat.pow_one] using h2
theorem stepN_xor (a b : Nat) : stepN (a ^^^ b) = stepN a ^^^ stepN b := by
  unfold stepN
  rw [par_xor, xor_half]
  rcases Nat.mod_two_eq_zero_or_one a with ha | ha <;> rcases Nat.mod_two_eq_zero_or_one b with hb | hb
  · rw [ha, hb]; rfl
  · rw [ha, hb]
    show (a / 2 ^^^ b / 2) ^^^ 3988292384 = a / 2 ^^^ (b / 2 ^^^ 3988292384)
    rw [Nat.xor_assoc]
  · rw [ha, hb]
    show (a / 2 ^^^ b / 2) ^^^ 3988292384 = (a / 2 ^^^ 3988292384) ^^^ b / 2
    rw [Nat.xor_assoc, Nat.xor_assoc, Nat.xor_comm (b / 2)]
  · rw [ha, hb]
    show a / 2 ^^^ b / 2 = (a / 2 ^^^ 3988292384) ^^^ (b / 2 ^^^ 3988292384)
    rw [xor_four, Nat.xor_self, Nat.xor_zero]
theorem xor_zero {a b : Nat} (h : a ^^^ b = 0) : a = b := by
  have h2 : (a ^^^ b) ^^^ b = b := by rw [h, Nat.zero_xor]
  rwa [Nat.xor_assoc, Nat.xor_self, Nat.xor_zero] at h2
theorem stepN_lt (a : Nat) (h : a < 4294967296) : stepN a < 4294967296 := (stepR_nat a h).2
theorem stepN_zero (a : Nat) (h : a < 4294967296) (h0 : stepN a = 0) : a = 0 := by
  unfold stepN at h0
  by_cases hp : a % 2 = 1
  · rw [if_pos hp] at h0
    have := xor_zero h0
    omega
  · rw [if_neg hp] at h0
    omega
theorem rep_xor : ∀ (k a b : Nat), Nat.repeat stepN k (a ^^^ b) = Nat.repeat stepN k a ^^^ Nat.repeat stepN k b
  | 0, _, _ => rfl
  | k + 1, a, b => by
    show stepN (Nat.repeat stepN k (a ^^^ b)) = stepN (Nat.repeat stepN k a) ^^^ stepN (Nat.repeat stepN k b)
    rw [rep_xor k a b, stepN_xor]
theorem rep_lt : ∀ (k a : Nat), a < 4294967296 → Nat.repeat stepN k a < 4294967296
  | 0, _, h => h
  | k + 1, a, h => stepN_lt _ (rep_lt k a h)
theorem rep_zero : ∀ (k a : Nat), a < 4294967296 → Nat.repeat stepN k a = 0 → a = 0
  | 0, _, _, h => h
  | k + 1, a, h, h0 => rep_zero k a h (stepN_zero _ (rep_lt k a h) h0)
/-- The sum's state, byte by byte, over Nat. -/
def sumN (z : Nat) (l : List Nat) : Nat := l.foldl (fun z c => Nat.repeat stepN 8 (z ^^^ c)) z
theorem sumN_xor : ∀ (a b : List Nat) (y z : Nat), a.length = b.length → sumN (y ^^^ z) (List.zipWith (· ^^^ ·) a b) = sumN y a ^^^ sumN z b
  | [], [], _, _, _ => rfl
  | c :: a, d :: b, y, z, h => by
    simp only [sumN, List.zipWith_cons_cons, List.foldl_cons]
    rw [xor_four, rep_xor]
    exact sumN_xor a b _ _ (by simpa using h)
  | [], _ :: _, _, _, h => by simp at h
  | _ :: _, [], _, _, h => by simp at h
theorem sumN_lt : ∀ (l : List Nat) (z : Nat), z < 4294967296 → (∀ c ∈ l, c < 256) → sumN z l < 4294967296
  | [], _, h, _ => h
  | c :: l, z, h, hl => by
    refine sumN_lt l _ (rep_lt 8 _ ?_) (fun d hd => hl d (List.mem_cons_of_mem _ hd))
    exact Nat.xor_lt_two_pow (n := 32) h (by have := hl c List.mem_cons_self; omega)
/-- From a state that is not 0, bytes 0 never come back to 0. -/
theorem sumN_stays : ∀ (k z : Nat), z < 4294967296 → sumN z (List.replicate k 0) = 0 → z = 0
  | 0, _, _, h => h
  | k + 1, z, hz, h => by
    simp only [sumN, List.replicate_succ, List.foldl_cons, Nat.xor_zero] at h
    exact rep_zero 8 z hz (sumN_stays k _ (rep_lt 8 z hz) h)
/-- Bytes 0 from the state 0: nothing comes of it. -/
theorem sumN_none : ∀ k : Nat, sumN 0 (List.replicate k 0) = 0
  | 0 => rfl
  | k + 1 => by
    simp only [sumN, List.replicate_succ, List.foldl_cons, Nat.xor_zero]
    exact sumN_none k
end Go.Proofs.YtlfgfjljddjncaaDoor

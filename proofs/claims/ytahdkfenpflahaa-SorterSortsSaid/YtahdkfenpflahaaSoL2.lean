/- What the texts behind this one use: ValueA, ValM, ValC, ValR, ValRR, OpenV, Mk, CloneA, CloneB, RowM, RowP. -/
import Derived.Test.YtahdkfenpflahaaRows
import Derived.Test.YtahdkfenpflahaaSoL1
import Derived.Lib.Bytealg
import Derived.Test.YtahdkfenpflahaaShelf
import Derived.OpenShut
import Derived.Handy
namespace Go.Proofs.Ytahdkfenpflahaa
set_option linter.unusedVariables false
open Go.ChangeShapes Go.WideShapes Go.ChangeAt Go.RowKit

def inN (n : Int) : Bool := decide (-1000000000000000 ≤ n) && decide (n ≤ 1000000000000000)
def okByte (c : UInt8) : Bool := decide (32 ≤ c.toNat) && decide (c.toNat ≤ 126)
def plainS (s : ByteArray) : Bool := decide (s.size ≤ 100) && s.data.toList.all okByte
def rightV (k n : Int) (s : ByteArray) : Bool :=
  if k = 0 then decide (n = 0) && s.toList.isEmpty
  else if k = 1 then (decide (n = 0) || decide (n = 1)) && s.toList.isEmpty
  else if k = 2 then inN n && s.toList.isEmpty
  else if k = 3 then decide (n = 0) && plainS s else false

theorem str_take (s : ByteArray) (k : Nat) (h : k < s.size) : s.data.toList.take (k + 1) = s.data.toList.take k ++ [s[k]] := by
  rw [List.take_succ_eq_append_getElem (by simpa using h)]; rfl
theorem str_len (s : ByteArray) : s.data.toList.length = s.size := by rw [Array.length_toList]; rfl
theorem all_stop {s : ByteArray} {k : Nat} (h : k < s.size) (hk : okByte s[k] = false) : s.data.toList.all okByte = false := by
  rw [← List.take_append_drop (k + 1) s.data.toList, str_take s k h]
  simp [hk]
theorem all_go {s : ByteArray} {k : Nat} (h : k < s.size) (ha : (s.data.toList.take k).all okByte = true) (hk : okByte s[k] = true) : (s.data.toList.take (k + 1)).all okByte = true := by
  rw [str_take s k h, List.all_append, ha]; simp [hk]
theorem okByte_cases (c : UInt8) : (okByte c = true ∧ 32 ≤ (c.toNat : Int) ∧ (c.toNat : Int) ≤ 126) ∨ (okByte c = false ∧ (c.toNat : Int) < 32) ∨ (okByte c = false ∧ 32 ≤ (c.toNat : Int) ∧ 126 < (c.toNat : Int)) := by
  unfold okByte
  by_cases h1 : 32 ≤ c.toNat <;> by_cases h2 : c.toNat ≤ 126 <;> simp [h1, h2] <;> omega
theorem right_cases (k n : Int) (s : ByteArray) : (k = 0 ∧ rightV k n s = (decide (n = 0) && s.toList.isEmpty)) ∨ (k = 1 ∧ rightV k n s = ((decide (n = 0) || decide (n = 1)) && s.toList.isEmpty)) ∨
    (k = 2 ∧ rightV k n s = (inN n && s.toList.isEmpty)) ∨ (k = 3 ∧ rightV k n s = (decide (n = 0) && plainS s)) ∨ ((k == 0) = false ∧ (k == 1) = false ∧ (k == 2) = false ∧ (k == 3) = false ∧ rightV k n s = false) := by
  unfold rightV
  by_cases h0 : k = 0
  · simp [h0]
  · by_cases h1 : k = 1
    · simp [h1]
    · by_cases h2 : k = 2
      · simp [h2]
      · by_cases h3 : k = 3
        · simp [h3]
        · simp [h0, h1, h2, h3]
end Go.Proofs.Ytahdkfenpflahaa
namespace Go.Proofs.Ytahdkfenpflahaa
set_option linter.unusedVariables false
open Go.ChangeShapes Go.WideShapes Go.ChangeAt Go.RowKit

def cmpI (a b : Int) : Int := if a < b then -1 else if b < a then 1 else 0
def cmpT (s t : ByteArray) : Int := Lib.compareBytes s.data.toList t.data.toList
/-- A value. -/
structure ValV where
  kind : Int
  num : Int
  str : ByteArray
def valCells (v : ValV) : List Value := [.int .i64 v.kind, .int .i64 v.num, .string v.str]
def valAgg (v : ValV) : Value := .agg #[.int .i64 v.kind, .int .i64 v.num, .string v.str]
def cmpV (a b : ValV) : Int := if cmpI a.kind b.kind = 0 then (if cmpI a.num b.num = 0 then cmpT a.str b.str else cmpI a.num b.num) else cmpI a.kind b.kind
/-- What Compare gives. -/
def compV (a b : ValV) : Int × Bool := if a.kind = b.kind then (if a.kind = 1 ∨ a.kind = 2 then (cmpI a.num b.num, true) else if a.kind = 3 then (cmpT a.str b.str, true) else (0, false)) else (0, false)
def cmpR : List ValV → List ValV → Int
  | [], [] => 0
  | [], _ :: _ => -1
  | _ :: _, [] => 1
  | a :: l, b :: m => if cmpV a b = 0 then cmpR l m else cmpV a b

theorem cmpI_zero {a b : Int} : cmpI a b = 0 ↔ a = b := by unfold cmpI; split <;> (try split) <;> omega
theorem cmpI_neg (a b : Int) : cmpI b a = -cmpI a b := by unfold cmpI; split <;> (try split) <;> (try split) <;> omega
theorem cmpI_range (a b : Int) : -1 ≤ cmpI a b ∧ cmpI a b ≤ 1 := by unfold cmpI; split <;> (try split) <;> omega
theorem cb_range : ∀ l m : List UInt8, -1 ≤ Lib.compareBytes l m ∧ Lib.compareBytes l m ≤ 1
  | [], [] => by decide
  | [], _ :: _ => by simp [Lib.compareBytes]
  | _ :: _, [] => by simp [Lib.compareBytes]
  | a :: l, b :: m => by
    simp only [Lib.compareBytes]
    have := cb_range l m
    split
    · omega
    · split
      · omega
      · exact this
theorem cb_zero : ∀ {l m : List UInt8}, Lib.compareBytes l m = 0 ↔ l = m
  | [], [] => by simp [Lib.compareBytes]
  | [], _ :: _ => by simp [Lib.compareBytes]
  | _ :: _, [] => by simp [Lib.compareBytes]
  | a :: l, b :: m => by
    simp only [Lib.compareBytes, List.cons.injEq]
    by_cases h1 : a < b
    · simp [h1, UInt8.ne_of_lt h1]
    · by_cases h2 : b < a
      · simp [h1, h2, (UInt8.ne_of_lt h2).symm]
      · have : a = b := UInt8.le_antisymm (UInt8.not_lt.1 h2) (UInt8.not_lt.1 h1)
        subst this
        simp [cb_zero (l := l) (m := m)]
theorem cb_neg : ∀ l m : List UInt8, Lib.compareBytes m l = -Lib.compareBytes l m
  | [], [] => by decide
  | [], _ :: _ => by simp [Lib.compareBytes]
  | _ :: _, [] => by simp [Lib.compareBytes]
  | a :: l, b :: m => by
    simp only [Lib.compareBytes]
    by_cases h1 : a < b
    · simp [h1, UInt8.not_lt.2 (UInt8.le_of_lt h1)]
    · by_cases h2 : b < a
      · simp [h1, h2]
      · simp [h1, h2, cb_neg l m]
/-- Up to level, and on: the order goes on. -/
theorem cb_trans : ∀ l m k : List UInt8, Lib.compareBytes l m ≤ 0 → Lib.compareBytes m k ≤ 0 → Lib.compareBytes l k ≤ 0
  | [], m, [], _, _ => by simp [Lib.compareBytes]
  | [], m, _ :: _, _, _ => by simp [Lib.compareBytes]
  | a :: l, [], k, h, _ => by simp [Lib.compareBytes] at h
  | a :: l, b :: m, [], _, h => by simp [Lib.compareBytes] at h
  | a :: l, b :: m, c :: k, h, g => by
    simp only [Lib.compareBytes] at h g ⊢
    by_cases h1 : a < b
    · by_cases g1 : b < c
      · simp [UInt8.lt_trans h1 g1]
      · by_cases g2 : c < b
        · simp [g1, g2] at g
        · have : b = c := UInt8.le_antisymm (UInt8.not_lt.1 g2) (UInt8.not_lt.1 g1)
          subst this
          simp [h1]
    · by_cases h2 : b < a
      · simp [h1, h2] at h
      · have : a = b := UInt8.le_antisymm (UInt8.not_lt.1 h2) (UInt8.not_lt.1 h1)
        subst this
        by_cases g1 : a < c
        · simp [g1]
        · by_cases g2 : c < a
          · simp [g1, g2] at g
          · have : a = c := UInt8.le_antisymm (UInt8.not_lt.1 g2) (UInt8.not_lt.1 g1)
            subst this
            simp at h g ⊢
            exact cb_trans l m k h g
theorem cmpT_zero {s t : ByteArray} : cmpT s t = 0 ↔ s = t := by
  unfold cmpT
  rw [cb_zero]
  exact ⟨fun h => ByteArray.ext (Array.ext' h), fun h => by rw [h]⟩
theorem cmpV_zero {a b : ValV} : cmpV a b = 0 ↔ a = b := by
  obtain ⟨k, n, s⟩ := a
  obtain ⟨k2, n2, s2⟩ := b
  unfold cmpV
  simp only [ValV.mk.injEq]
  by_cases h1 : cmpI k k2 = 0
  · rw [if_pos h1]
    by_cases h2 : cmpI n n2 = 0
    · rw [if_pos h2, cmpT_zero, cmpI_zero.1 h1, cmpI_zero.1 h2]; simp
    · rw [if_neg h2]
      exact ⟨fun h => absurd h h2, fun h => absurd (cmpI_zero.2 h.2.1) h2⟩
  · rw [if_neg h1]
    exact ⟨fun h => absurd h h1, fun h => absurd (cmpI_zero.2 h.1) h1⟩
theorem cmpV_neg (a b : ValV) : cmpV b a = -cmpV a b := by
  unfold cmpV
  have h1 := cmpI_neg a.kind b.kind
  have h2 := cmpI_neg a.num b.num
  have h3 : cmpT b.str a.str = -cmpT a.str b.str := cb_neg _ _
  by_cases e1 : cmpI a.kind b.kind = 0
  · by_cases e2 : cmpI a.num b.num = 0
    · rw [if_pos e1, if_pos (by omega), if_pos e2, if_pos (by omega), h3]
    · rw [if_pos e1, if_pos (by omega), if_neg e2, if_neg (by omega), h2]
  · rw [if_neg e1, if_neg (by omega), h1]
theorem cmpV_range (a b : ValV) : -1 ≤ cmpV a b ∧ cmpV a b ≤ 1 := by
  have h1 := cmpI_range a.kind b.kind
  have h2 := cmpI_range a.num b.num
  have h3 := cb_range a.str.data.toList b.str.data.toList
  unfold cmpV cmpT
  split
  · split <;> omega
  · omega
def lexI (f g : Int) : Int := if f = 0 then g else f
theorem lex_trans {f1 f2 f3 g1 g2 g3 : Int} (h1 : f1 ≤ 0 → f2 ≤ 0 → f3 ≤ 0) (h2 : f1 ≤ 0 → f2 ≤ 0 → f3 = 0 → f1 = 0 ∧ f2 = 0) (h3 : g1 ≤ 0 → g2 ≤ 0 → g3 ≤ 0) (a : lexI f1 g1 ≤ 0) (b : lexI f2 g2 ≤ 0) : lexI f3 g3 ≤ 0 := by
  unfold lexI at *
  split at a <;> split at b <;> split <;> omega
theorem cmpI_trans (a b c : Int) : (cmpI a b ≤ 0 → cmpI b c ≤ 0 → cmpI a c ≤ 0) ∧ (cmpI a b ≤ 0 → cmpI b c ≤ 0 → cmpI a c = 0 → cmpI a b = 0 ∧ cmpI b c = 0) := by
  unfold cmpI
  rcases Int.lt_trichotomy a b with h | h | h <;> rcases Int.lt_trichotomy b c with g | g | g <;> rcases Int.lt_trichotomy a c with k | k | k <;> (try omega) <;>
    simp [h, g, k, Int.lt_irrefl] <;> omega
theorem cmpV_lex (a b : ValV) : cmpV a b = lexI (cmpI a.kind b.kind) (lexI (cmpI a.num b.num) (cmpT a.str b.str)) := rfl
theorem cmpV_trans (a b c : ValV) (h : cmpV a b ≤ 0) (g : cmpV b c ≤ 0) : cmpV a c ≤ 0 := by
  rw [cmpV_lex] at *
  have t1 := cmpI_trans a.kind b.kind c.kind
  have t2 := cmpI_trans a.num b.num c.num
  exact lex_trans t1.1 t1.2 (lex_trans t2.1 t2.2 (cb_trans _ _ _)) h g
/-- Level up to there: the order of three. -/
theorem cmpV_level (a b c : ValV) (h : cmpV a b ≤ 0) (g : cmpV b c ≤ 0) (e : cmpV a c = 0) : cmpV a b = 0 ∧ cmpV b c = 0 := by
  obtain rfl := cmpV_zero.1 e
  have := cmpV_neg a b
  omega
end Go.Proofs.Ytahdkfenpflahaa
namespace Go.Proofs.Ytahdkfenpflahaa
set_option linter.unusedVariables false
open Go.ChangeShapes Go.WideShapes Go.ChangeAt Go.RowKit

/-- A pure call in a second region that draws. -/
theorem quiet_l2 {P : Program} {f : FuncId} {args : Array Value} {w : World} {a n : Nat} {v : Value} (h : Calls P f args (w.drewN (a + n)) fun e w' => e = .returned v ∧ w.drewN (a + n) = w') :
    Calls P f args (w.drewN (a + n)) fun e w'' => e = .returned v ∧ ∃ m, w'' = w.drewN (a + m) := h.mono fun _ _ ⟨he, hm⟩ => ⟨he, n, hm.symm⟩
theorem nan_c (a : Int) (w : World) : Calls Try.prog 44 #[.int .i64 a] w fun e w' => e = .returned (.bool false) ∧ w = w' := by
  have h : (a != a) = false := by simp
  go_enter Try.func44, Try.ntmps44
  go_wp2
  go_ret
  exact ⟨rfl, rfl⟩
theorem cmp_c (a b : Int) (w : World) : Calls Try.prog 35 #[.int .i64 a, .int .i64 b] w fun e w' => e = .returned (.int .i64 (cmpI a b)) ∧ w = w' := by
  unfold cmpI
  rcases Int.lt_trichotomy a b with h | h | h
  · rw [if_pos h]
    go_enter Try.func35, Try.ntmps35
    go_wp2_with (go_at_call 44; refine (nan_c _ _).mono ?_; rintro e w' ⟨rfl, rfl⟩)
    go_ret
    exact ⟨rfl, rfl⟩
  · subst h
    rw [if_neg (by omega), if_neg (by omega)]
    go_enter Try.func35, Try.ntmps35
    go_wp2_with (go_at_call 44; refine (nan_c _ _).mono ?_; rintro e w' ⟨rfl, rfl⟩)
    go_ret
    exact ⟨rfl, rfl⟩
  · rw [if_neg (by omega), if_pos h]
    have h2 : b ≤ a := by omega
    go_enter Try.func35, Try.ntmps35
    go_wp2_with (go_at_call 44; refine (nan_c _ _).mono ?_; rintro e w' ⟨rfl, rfl⟩)
    go_ret
    exact ⟨rfl, rfl⟩
theorem ints_c (a b : Int) (w : World) : Calls Try.prog 27 #[.int .i64 a, .int .i64 b] w fun e w' => e = .returned (.int .i64 (cmpI a b)) ∧ w = w' := by
  unfold cmpI
  rcases Int.lt_trichotomy a b with h | h | h
  · rw [if_pos h]
    go_enter Try.func27, Try.ntmps27
    go_wp2
    go_ret
    exact ⟨rfl, rfl⟩
  · subst h
    rw [if_neg (by omega), if_neg (by omega)]
    go_enter Try.func27, Try.ntmps27
    go_wp2
    go_ret
    exact ⟨rfl, rfl⟩
  · rw [if_neg (by omega), if_pos h]
    have h2 : b ≤ a := by omega
    go_enter Try.func27, Try.ntmps27
    go_wp2
    go_ret
    exact ⟨rfl, rfl⟩
theorem scmp_c (a b : ByteArray) (w : World) : Calls Try.prog 36 #[.string a, .string b] w fun e w' => e = .returned (.int .i64 (cmpT a b)) ∧ w = w' :=
  (Try.strings_Compare a b w).mono fun e w' ⟨h1, h2⟩ => ⟨h1, h2.symm⟩
theorem cb_at (s t : ByteArray) (k : Nat) (h1 : k < s.size) (h2 : k < t.size) : Lib.compareBytes (s.data.toList.drop k) (t.data.toList.drop k) = if s[k] = t[k] then Lib.compareBytes (s.data.toList.drop (k + 1)) (t.data.toList.drop (k + 1)) else cmpI s[k].toNat t[k].toNat := by
  have e1 : s.data.toList.drop k = s[k] :: s.data.toList.drop (k + 1) := List.drop_eq_getElem_cons (by rw [str_len]; exact h1)
  have e2 : t.data.toList.drop k = t[k] :: t.data.toList.drop (k + 1) := List.drop_eq_getElem_cons (by rw [str_len]; exact h2)
  rw [e1, e2]
  simp only [Lib.compareBytes]
  generalize s[k] = a
  generalize t[k] = b
  by_cases g1 : a < b
  · have := UInt8.lt_iff_toNat_lt.1 g1
    rw [if_pos g1, if_neg (UInt8.ne_of_lt g1)]
    unfold cmpI
    rw [if_pos (by omega)]
  · by_cases g2 : b < a
    · have := UInt8.lt_iff_toNat_lt.1 g2
      rw [if_neg g1, if_pos g2, if_neg (UInt8.ne_of_lt g2).symm]
      unfold cmpI
      rw [if_neg (by omega), if_pos (by omega)]
    · rw [if_neg g1, if_neg g2, if_pos (UInt8.le_antisymm (UInt8.not_lt.1 g2) (UInt8.not_lt.1 g1))]
theorem cb_end (s t : ByteArray) (k : Nat) (h1 : k ≤ s.size) (h2 : k ≤ t.size) (h : k = s.size ∨ k = t.size) : Lib.compareBytes (s.data.toList.drop k) (t.data.toList.drop k) = cmpI s.size t.size := by
  have l1 := str_len s
  have l2 := str_len t
  by_cases a : k = s.size
  · rw [List.drop_of_length_le (l := s.data.toList) (by omega)]
    by_cases b : k = t.size
    · rw [List.drop_of_length_le (by omega), cmpI_zero.2 (by omega)]; rfl
    · rw [List.drop_eq_getElem_cons (l := t.data.toList) (by omega)]
      unfold cmpI
      rw [if_pos (by omega)]
      rfl
  · rw [List.drop_of_length_le (l := t.data.toList) (by omega), List.drop_eq_getElem_cons (l := s.data.toList) (by omega)]
    unfold cmpI
    rw [if_neg (by omega), if_pos (by omega)]
    rfl
set_option maxHeartbeats 1000000 in
theorem texts_c (s t : ByteArray) (w : World) (hs : s.size ≤ 9223372036854775807) (ht : t.size ≤ 9223372036854775807) : Calls Try.prog 38 #[.string s, .string t] w fun e w' => e = .returned (.int .i64 (cmpT s t)) ∧ ∃ n, w' = w.drewN n := by
  go_enter Try.func38, Try.ntmps38
  go_wp2
  go_loopw [5] (fun i wr => ∃ k m : Nat, k ≤ s.size ∧ k ≤ t.size ∧ i = .int .i64 k ∧ wr = w.drewN m ∧ Hid (Lib.compareBytes (s.data.toList.drop k) (t.data.toList.drop k) = cmpT s t)) (fun i _ => s.size - (intOf i).toNat)
  case atStart => exact ⟨0, 0, Nat.zero_le _, Nat.zero_le _, rfl, rfl, rfl⟩
  case round =>
    obtain ⟨k, m, hk, hk2, rfl, rfl, HR⟩ := hrel
    by_cases hgo : k < s.size ∧ k < t.size
    · obtain ⟨h1, h2⟩ := hgo
      have hst := HR.out.symm.trans (cb_at s t k h1 h2)
      by_cases he : s[k] = t[k]
      · rw [if_pos he] at hst
        have HS := hide hst
        have hb : ((s[k].toNat : Int) != (t[k].toNat : Int)) = false := by simp [he]
        clear hst he
        go_wp2_with fail
        go_quiet (fail)
        go_wp2_with fail
        go_roundw
        case rel => exact ⟨k + 1, _, by omega, by omega, by go_num, rfl, HS.out.symm⟩
        case measure => simp [intOf]; omega
      · rw [if_neg he] at hst
        have hb : ((s[k].toNat : Int) != (t[k].toNat : Int)) = true := by
          have : s[k].toNat ≠ t[k].toNat := fun e => he (UInt8.toNat_inj.1 e)
          simp; omega
        have HS := hide hst
        have b1 := s[k].toNat_lt
        have b2 := t[k].toNat_lt
        have w1 : IntKind.i64.wrap (s[k].toNat : Int) = s[k].toNat := IntWalk.i64_in _ (by omega)
        have w2 : IntKind.i64.wrap (t[k].toNat : Int) = t[k].toNat := IntWalk.i64_in _ (by omega)
        clear hst he
        go_wp2_with fail
        go_quiet (fail)
        go_wp2_with fail
        go_quiet ((go_at_call 27; exact quiet_l2 (ints_c _ _ _)))
        go_wp2_with fail
        go_ret
        refine ⟨ret_int HS.out.symm, ?_⟩
        simp only [World.drewN_drewN]
        exact ⟨_, rfl⟩
    · have hst := HR.out.symm.trans (cb_end s t k hk hk2 (by omega))
      have HS := hide hst
      clear hst
      rcases (show ¬ k < s.size ∨ (k < s.size ∧ ¬ k < t.size) by omega) with h1 | ⟨h1, h2⟩
      all_goals
        clear hgo
        go_wp2_with (go_at_call 27; refine (ints_c _ _ _).mono ?_; rintro e w' ⟨rfl, rfl⟩)
        go_ret
        exact ⟨ret_int HS.out.symm, _, rfl⟩
theorem order_c (a b : ValV) (w : World) : Calls Try.prog 22 #[valAgg a, valAgg b] w fun e w' => e = .returned (.int .i64 (cmpV a b)) ∧ Below w.heap.size w w' := by
  obtain ⟨k, n, s⟩ := a
  obtain ⟨k2, n2, s2⟩ := b
  unfold valAgg cmpV
  simp only
  have hB := ((Below.refl w.heap.size w).alloc (Nat.le_refl _) (.cells #[.int .i64 k, .int .i64 n, .string s] 44)).alloc (by simp) (.cells #[.int .i64 k2, .int .i64 n2, .string s2] 44)
  have HB := hide hB
  clear hB
  have q1 := fun W => cmp_c k k2 W
  have q2 := fun W => cmp_c n n2 W
  generalize cmpI k k2 = c1 at *
  generalize cmpI n n2 = c2 at *
  have Q1 := hide q1
  have Q2 := hide q2
  clear q1 q2
  by_cases h1 : c1 = 0
  · subst h1
    rw [if_pos rfl]
    by_cases h2 : c2 = 0
    · subst h2
      rw [if_pos rfl]
      go_enter Try.func22, Try.ntmps22
      go_wp2_with fail
      refine (Q1.out _).mono ?_
      rintro e w' ⟨rfl, rfl⟩
      go_wp2_with fail
      refine (Q2.out _).mono ?_
      rintro e w' ⟨rfl, rfl⟩
      go_wp2_with (go_at_call 36; refine (scmp_c _ _ _).mono ?_; rintro e w' ⟨rfl, rfl⟩)
      go_ret
      exact ⟨rfl, HB.out⟩
    · rw [if_neg h2]
      have f2 : (c2 != 0) = true := by simp [h2]
      clear h2
      go_enter Try.func22, Try.ntmps22
      go_wp2_with fail
      refine (Q1.out _).mono ?_
      rintro e w' ⟨rfl, rfl⟩
      go_wp2_with fail
      refine (Q2.out _).mono ?_
      rintro e w' ⟨rfl, rfl⟩
      go_wp2
      go_ret
      exact ⟨rfl, HB.out⟩
  · rw [if_neg h1]
    have f1 : (c1 != 0) = true := by simp [h1]
    clear h1
    go_enter Try.func22, Try.ntmps22
    go_wp2_with fail
    refine (Q1.out _).mono ?_
    rintro e w' ⟨rfl, rfl⟩
    go_wp2
    go_ret
    exact ⟨rfl, HB.out⟩
theorem rorder_c (a b : ValV) (w : World) (ha : a.str.size ≤ 9223372036854775807) (hb : b.str.size ≤ 9223372036854775807) : Calls Try.prog 26 #[valAgg a, valAgg b] w fun e w' => e = .returned (.int .i64 (cmpV a b)) ∧ Below w.heap.size w w' := by
  obtain ⟨k, n, s⟩ := a
  obtain ⟨k2, n2, s2⟩ := b
  unfold valAgg cmpV
  simp only at *
  have hB := ((Below.refl w.heap.size w).alloc (Nat.le_refl _) (.cells #[.int .i64 k, .int .i64 n, .string s] 44)).alloc (by simp) (.cells #[.int .i64 k2, .int .i64 n2, .string s2] 44)
  have HB := hide hB
  clear hB
  by_cases h1 : k = k2
  · subst h1
    rw [if_pos (cmpI_zero.2 rfl)]
    by_cases h2 : n = n2
    · subst h2
      rw [if_pos (cmpI_zero.2 rfl)]
      go_enter Try.func26, Try.ntmps26
      go_wp2_with (go_at_call 38; refine (texts_c _ _ _ ha hb).mono ?_; rintro e w' ⟨rfl, nq, rfl⟩)
      go_ret
      exact ⟨rfl, Bel.drewN HB.out _⟩
    · rw [if_neg (fun e => h2 (cmpI_zero.1 e))]
      have f2 : (n != n2) = true := by simp [h2]
      clear h2
      go_enter Try.func26, Try.ntmps26
      go_wp2_with (go_at_call 27; refine (ints_c _ _ _).mono ?_; rintro e w' ⟨rfl, rfl⟩)
      go_ret
      exact ⟨rfl, HB.out⟩
  · rw [if_neg (fun e => h1 (cmpI_zero.1 e))]
    have f1 : (k != k2) = true := by simp [h1]
    clear h1
    go_enter Try.func26, Try.ntmps26
    go_wp2_with (go_at_call 27; refine (ints_c _ _ _).mono ?_; rintro e w' ⟨rfl, rfl⟩)
    go_ret
    exact ⟨rfl, HB.out⟩
end Go.Proofs.Ytahdkfenpflahaa
namespace Go.Proofs.Ytahdkfenpflahaa
set_option linter.unusedVariables false
open Go.ChangeShapes Go.WideShapes Go.ChangeAt Go.RowKit

abbrev RowAt := SlAt valCells 3
theorem RowAt.val {w : World} {B n c : Nat} {A : Option Addr} {r : List ValV} (h : RowAt w B A n c r) {i : Nat} (hi : i < n) :
    ∃ b off v, A = some ⟨b, off, none⟩ ∧ b < B ∧ r[i]? = some v ∧ w.cell? ⟨b, off + i * 3, none⟩ = some (.int .i64 v.kind) ∧ w.cell? ⟨b, off + i * 3 + 1, none⟩ = some (.int .i64 v.num) ∧ w.cell? ⟨b, off + i * 3 + 2, none⟩ = some (.string v.str) := by
  obtain ⟨b, off, v, e, hb, hv, hc⟩ := h.at (by omega) hi
  exact ⟨b, off, v, e, hb, hv, hc 0 _ rfl, hc 1 _ rfl, hc 2 _ rfl⟩
theorem cmpR_at {r s : List ValV} {k : Nat} {a b : ValV} (h1 : r[k]? = some a) (h2 : s[k]? = some b) : cmpR (r.drop k) (s.drop k) = if cmpV a b = 0 then cmpR (r.drop (k + 1)) (s.drop (k + 1)) else cmpV a b := by
  rw [drop_at h1, drop_at h2]
  rfl
theorem cmpR_end {r s : List ValV} {k : Nat} (h1 : k ≤ r.length) (h2 : k ≤ s.length) (h : k = r.length ∨ k = s.length) : cmpR (r.drop k) (s.drop k) = cmpI r.length s.length := by
  by_cases a : k = r.length
  · rw [List.drop_of_length_le (l := r) (by omega)]
    by_cases b : k = s.length
    · rw [List.drop_of_length_le (by omega), cmpI_zero.2 (by omega)]; rfl
    · rw [List.drop_eq_getElem_cons (l := s) (by omega)]
      unfold cmpI
      rw [if_pos (by omega)]
      rfl
  · rw [List.drop_of_length_le (l := s) (by omega), List.drop_eq_getElem_cons (l := r) (by omega)]
    unfold cmpI
    rw [if_neg (by omega), if_pos (by omega)]
    rfl
set_option maxHeartbeats 1000000 in
theorem cmpFunc_c (A A2 : Option Addr) (n c n2 c2 : Nat) (r s : List ValV) (w : World) (h : RowAt w w.heap.size A n c r) (h2 : RowAt w w.heap.size A2 n2 c2 s) :
    Calls Try.prog 37 #[.slice A n c, .slice A2 n2 c2, .func (.func 22) #[] #[]] w fun e w' => e = .returned (.int .i64 (cmpR r s)) ∧ Below w.heap.size w w' := by
  have l1 := h.len
  have l2 := h2.len
  have m1 := h.cap
  have m2 := h.max
  have m3 := h2.cap
  have m4 := h2.max
  unfold maxLen at m2 m4
  have H := hide h
  have H2 := hide h2
  clear h h2
  go_enter Try.func37, Try.ntmps37
  go_wp2
  go_loopw [13] (fun i wr => ∃ k : Nat, k ≤ n ∧ k ≤ n2 ∧ i = .int .i64 k ∧ Hid (Below w.heap.size w wr) ∧ Hid (cmpR (r.drop k) (s.drop k) = cmpR r s)) (fun i _ => n - (intOf i).toNat)
  case atStart => exact ⟨0, Nat.zero_le _, Nat.zero_le _, rfl, Below.refl _ _, rfl⟩
  case round =>
    obtain ⟨k, hk, hk2, rfl, HB, HR⟩ := hrel
    by_cases h1 : k < n
    · obtain ⟨b, off, v, rfl, hb, hv, hc0, hc1, hc2⟩ := RowAt.val (H.out.below HB.out) h1
      by_cases h2 : k < n2
      · obtain ⟨b2, off2, v2, rfl, hb2, hv2, hd0, hd1, hd2⟩ := RowAt.val (H2.out.below HB.out) h2
        have hst := HR.out.symm.trans (cmpR_at hv hv2)
        have q := fun W => order_c v v2 W
        unfold valAgg at q
        obtain ⟨vk, vn, vs⟩ := v
        obtain ⟨vk2, vn2, vs2⟩ := v2
        simp only at q hc0 hc1 hc2 hd0 hd1 hd2
        generalize cmpV ⟨vk, vn, vs⟩ ⟨vk2, vn2, vs2⟩ = x at *
        have HS := hide hst
        have Q := hide q
        clear hst q hv hv2
        have e0 := World.cell?_alloc_some wr ⟨b2, off2 + k * 3, none⟩ (.cells #[.int .i64 vk, .int .i64 vn, .string vs] 44) (by simp [hd0])
        have e1 := World.cell?_alloc_some wr ⟨b2, off2 + k * 3 + 1, none⟩ (.cells #[.int .i64 vk, .int .i64 vn, .string vs] 44) (by simp [hd1])
        have e2 := World.cell?_alloc_some wr ⟨b2, off2 + k * 3 + 2, none⟩ (.cells #[.int .i64 vk, .int .i64 vn, .string vs] 44) (by simp [hd2])
        by_cases hx : x = 0
        · have HX : Hid (cmpR r s = cmpR (r.drop (k + 1)) (s.drop (k + 1))) := HS.out.trans (if_pos hx)
          subst hx
          go_wp2_with fail
          refine (Q.out _).mono ?_
          rintro e w1 ⟨rfl, hb⟩
          have HB1 := hide (HB.out.trans ((((Below.refl wr.heap.size wr).alloc (Nat.le_refl _) _).alloc (by simp) _ |>.trans (hb.mono (by simp; omega))).mono HB.out.size))
          clear hb
          go_wp2_with fail
          go_roundw
          case rel => exact ⟨k + 1, by omega, by omega, by go_num, HB1, HX.out.symm⟩
          case measure => simp [intOf]; omega
        · have HX : Hid (cmpR r s = x) := HS.out.trans (if_neg hx)
          have f1 : (x != 0) = true := by simp [hx]
          clear hx
          go_wp2_with fail
          refine (Q.out _).mono ?_
          rintro e w1 ⟨rfl, hb⟩
          have HB1 := hide (HB.out.trans ((((Below.refl wr.heap.size wr).alloc (Nat.le_refl _) _).alloc (by simp) _ |>.trans (hb.mono (by simp; omega))).mono HB.out.size))
          clear hb
          go_wp2_with fail
          go_ret
          exact ⟨ret_int HX.out.symm, HB1.out⟩
      · have hst := HR.out.symm.trans (cmpR_end (by omega) (by omega) (.inr (by omega)))
        have hx : cmpI r.length s.length = 1 := by unfold cmpI; rw [if_neg (by omega), if_pos (by omega)]
        rw [hx] at hst
        have HS := hide hst
        clear hst hx hv
        go_wp2_with fail
        go_ret
        exact ⟨ret_int HS.out.symm, HB.out.alloc HB.out.size _⟩
    · have hst := HR.out.symm.trans (cmpR_end (by omega) (by omega) (.inl (by omega)))
      by_cases h2 : n < n2
      · have hx : cmpI r.length s.length = -1 := by unfold cmpI; rw [if_pos (by omega)]
        rw [hx] at hst
        have HS := hide hst
        clear hst hx
        go_wp2_with fail
        go_ret
        exact ⟨ret_int HS.out.symm, HB.out⟩
      · have hx : cmpI r.length s.length = 0 := cmpI_zero.2 (by omega)
        rw [hx] at hst
        have HS := hide hst
        clear hst hx
        go_wp2_with fail
        go_ret
        exact ⟨ret_int HS.out.symm, HB.out⟩
theorem orders_c (A A2 : Option Addr) (n c n2 c2 : Nat) (r s : List ValV) (w : World) (h : RowAt w w.heap.size A n c r) (h2 : RowAt w w.heap.size A2 n2 c2 s) :
    Calls Try.prog 23 #[.slice A n c, .slice A2 n2 c2] w fun e w' => e = .returned (.int .i64 (cmpR r s)) ∧ Below w.heap.size w w' := by
  have Q := hide (cmpFunc_c A A2 n c n2 c2 r s w h h2)
  clear h h2
  go_enter Try.func23, Try.ntmps23
  go_wp2_with fail
  refine Q.out.mono ?_
  rintro e w1 ⟨rfl, hb⟩
  go_wp2_with fail
  go_ret
  exact ⟨rfl, hb⟩
end Go.Proofs.Ytahdkfenpflahaa
namespace Go.Proofs.Ytahdkfenpflahaa
set_option linter.unusedVariables false
open Go.ChangeShapes Go.WideShapes Go.ChangeAt Go.RowKit

/-- Texts of a length that an int can say. -/
def StrsOk (r : List ValV) : Prop := ∀ v ∈ r, v.str.size ≤ 9223372036854775807
set_option maxHeartbeats 2000000 in
theorem rorders_c (A A2 : Option Addr) (n c n2 c2 : Nat) (r s : List ValV) (w : World) (h : RowAt w w.heap.size A n c r) (h2 : RowAt w w.heap.size A2 n2 c2 s) (hr : StrsOk r) (hs : StrsOk s) :
    Calls Try.prog 12 #[.slice A n c, .slice A2 n2 c2] w fun e w' => e = .returned (.int .i64 (cmpR r s)) ∧ Below w.heap.size w w' := by
  have l1 := h.len
  have l2 := h2.len
  have m1 := h.cap
  have m2 := h.max
  have m3 := h2.cap
  have m4 := h2.max
  unfold maxLen at m2 m4
  have H := hide h
  have H2 := hide h2
  clear h h2
  go_enter Try.func12, Try.ntmps12
  go_wp2
  go_loopw [5] (fun i wr => ∃ k : Nat, k ≤ n ∧ k ≤ n2 ∧ i = .int .i64 k ∧ Hid (Below w.heap.size w wr) ∧ Hid (cmpR (r.drop k) (s.drop k) = cmpR r s)) (fun i _ => n - (intOf i).toNat)
  case atStart => exact ⟨0, Nat.zero_le _, Nat.zero_le _, rfl, Below.refl _ _, rfl⟩
  case round =>
    obtain ⟨k, hk, hk2, rfl, HB, HR⟩ := hrel
    by_cases hgo : k < n ∧ k < n2
    · obtain ⟨h1, h2⟩ := hgo
      obtain ⟨b, off, v, rfl, hb, hv, hc0, hc1, hc2⟩ := RowAt.val (H.out.below HB.out) h1
      obtain ⟨b2, off2, v2, rfl, hb2, hv2, hd0, hd1, hd2⟩ := RowAt.val (H2.out.below HB.out) h2
      have hst := HR.out.symm.trans (cmpR_at hv hv2)
      have q := fun W => rorder_c v v2 W (hr v (List.mem_of_getElem? hv)) (hs v2 (List.mem_of_getElem? hv2))
      unfold valAgg at q
      obtain ⟨vk, vn, vs⟩ := v
      obtain ⟨vk2, vn2, vs2⟩ := v2
      simp only at q hc0 hc1 hc2 hd0 hd1 hd2
      generalize cmpV ⟨vk, vn, vs⟩ ⟨vk2, vn2, vs2⟩ = x at *
      have HS := hide hst
      have Q := hide q
      clear hst q hv hv2
      by_cases hx : x = 0
      · have HX : Hid (cmpR r s = cmpR (r.drop (k + 1)) (s.drop (k + 1))) := HS.out.trans (if_pos hx)
        subst hx
        go_wp2_with fail
        refine wp_region_held_drew (S := (fun w' => Below wr.heap.size wr w')) (by kernel_rfl) ((Below.refl _ _).drew) (fun hHeld => ?_)
        first | (refine wpAnyH_take (i := 0) (v := ?_) nth0 (by kernel_rfl) (by kernel_rfl) (by kernel_rfl) (fun _ _ _ h => h) (Or.inl ⟨by rfl, ?_⟩) hHeld ?_; rotate_left; focus (intro wS hSw; (have c0 := kept hSw hc0; have c1 := kept hSw hc1; have c2 := kept hSw hc2; have d0 := kept hSw hd0; have d1 := kept hSw hd1; have d2 := kept hSw hd2); go_simp; try with_reducible rfl; done)) | (refine wpAnyH_take (i := 0) (v := undef) nth0 (by kernel_rfl) (by kernel_rfl) (by kernel_rfl) (fun _ _ _ h => h) (Or.inr ⟨by rfl, rfl⟩) hHeld ?_)
        (try simp only [Act.put]); (try simp only [List.setIfInBounds_toArray]); (try simp only [List.set_cons_succ]); (try simp only [List.set_cons_zero])
        first | (refine wpAnyH_take (i := 1) (v := ?_) nth1 (by kernel_rfl) (by kernel_rfl) (by kernel_rfl) (fun _ _ _ h => h) (Or.inl ⟨by rfl, ?_⟩) hHeld ?_; rotate_left; focus (intro wS hSw; (have c0 := kept hSw hc0; have c1 := kept hSw hc1; have c2 := kept hSw hc2; have d0 := kept hSw hd0; have d1 := kept hSw hd1; have d2 := kept hSw hd2); go_simp; try with_reducible rfl; done)) | (refine wpAnyH_take (i := 1) (v := undef) nth1 (by kernel_rfl) (by kernel_rfl) (by kernel_rfl) (fun _ _ _ h => h) (Or.inr ⟨by rfl, rfl⟩) hHeld ?_)
        (try simp only [Act.put]); (try simp only [List.setIfInBounds_toArray]); (try simp only [List.set_cons_succ]); (try simp only [List.set_cons_zero])
        first | (refine wpAnyH_take (i := 2) (v := ?_) nth2 (by kernel_rfl) (by kernel_rfl) (by kernel_rfl) (fun _ _ _ h => h) (Or.inl ⟨by rfl, ?_⟩) hHeld ?_; rotate_left; focus (intro wS hSw; (have c0 := kept hSw hc0; have c1 := kept hSw hc1; have c2 := kept hSw hc2; have d0 := kept hSw hd0; have d1 := kept hSw hd1; have d2 := kept hSw hd2); go_simp; try with_reducible rfl; done)) | (refine wpAnyH_take (i := 2) (v := undef) nth2 (by kernel_rfl) (by kernel_rfl) (by kernel_rfl) (fun _ _ _ h => h) (Or.inr ⟨by rfl, rfl⟩) hHeld ?_)
        (try simp only [Act.put]); (try simp only [List.setIfInBounds_toArray]); (try simp only [List.set_cons_succ]); (try simp only [List.set_cons_zero])
        first | (refine wpAnyH_take (i := 3) (v := ?_) nth3 (by kernel_rfl) (by kernel_rfl) (by kernel_rfl) (fun _ _ _ h => h) (Or.inl ⟨by rfl, ?_⟩) hHeld ?_; rotate_left; focus (intro wS hSw; (have c0 := kept hSw hc0; have c1 := kept hSw hc1; have c2 := kept hSw hc2; have d0 := kept hSw hd0; have d1 := kept hSw hd1; have d2 := kept hSw hd2); go_simp; try with_reducible rfl; done)) | (refine wpAnyH_take (i := 3) (v := undef) nth3 (by kernel_rfl) (by kernel_rfl) (by kernel_rfl) (fun _ _ _ h => h) (Or.inr ⟨by rfl, rfl⟩) hHeld ?_)
        (try simp only [Act.put]); (try simp only [List.setIfInBounds_toArray]); (try simp only [List.set_cons_succ]); (try simp only [List.set_cons_zero])
        first | (refine wpAnyH_take (i := 4) (v := ?_) nth4 (by kernel_rfl) (by kernel_rfl) (by kernel_rfl) (fun _ _ _ h => h) (Or.inl ⟨by rfl, ?_⟩) hHeld ?_; rotate_left; focus (intro wS hSw; (have c0 := kept hSw hc0; have c1 := kept hSw hc1; have c2 := kept hSw hc2; have d0 := kept hSw hd0; have d1 := kept hSw hd1; have d2 := kept hSw hd2); go_simp; try with_reducible rfl; done)) | (refine wpAnyH_take (i := 4) (v := undef) nth4 (by kernel_rfl) (by kernel_rfl) (by kernel_rfl) (fun _ _ _ h => h) (Or.inr ⟨by rfl, rfl⟩) hHeld ?_)
        (try simp only [Act.put]); (try simp only [List.setIfInBounds_toArray]); (try simp only [List.set_cons_succ]); (try simp only [List.set_cons_zero])
        first | (refine wpAnyH_take (i := 5) (v := ?_) nth5 (by kernel_rfl) (by kernel_rfl) (by kernel_rfl) (fun _ _ _ h => h) (Or.inl ⟨by rfl, ?_⟩) hHeld ?_; rotate_left; focus (intro wS hSw; (have c0 := kept hSw hc0; have c1 := kept hSw hc1; have c2 := kept hSw hc2; have d0 := kept hSw hd0; have d1 := kept hSw hd1; have d2 := kept hSw hd2); go_simp; try with_reducible rfl; done)) | (refine wpAnyH_take (i := 5) (v := undef) nth5 (by kernel_rfl) (by kernel_rfl) (by kernel_rfl) (fun _ _ _ h => h) (Or.inr ⟨by rfl, rfl⟩) hHeld ?_)
        (try simp only [Act.put]); (try simp only [List.setIfInBounds_toArray]); (try simp only [List.set_cons_succ]); (try simp only [List.set_cons_zero])
        first | (refine wpAnyH_take (i := 6) (v := ?_) nth6 (by kernel_rfl) (by kernel_rfl) (by kernel_rfl) (fun _ _ _ h => h) (Or.inl ⟨by rfl, ?_⟩) hHeld ?_; rotate_left; focus (intro wS hSw; (have c0 := kept hSw hc0; have c1 := kept hSw hc1; have c2 := kept hSw hc2; have d0 := kept hSw hd0; have d1 := kept hSw hd1; have d2 := kept hSw hd2); go_simp; try with_reducible rfl; done)) | (refine wpAnyH_take (i := 6) (v := undef) nth6 (by kernel_rfl) (by kernel_rfl) (by kernel_rfl) (fun _ _ _ h => h) (Or.inr ⟨by rfl, rfl⟩) hHeld ?_)
        (try simp only [Act.put]); (try simp only [List.setIfInBounds_toArray]); (try simp only [List.set_cons_succ]); (try simp only [List.set_cons_zero])
        first | (refine wpAnyH_take (i := 7) (v := ?_) nth7 (by kernel_rfl) (by kernel_rfl) (by kernel_rfl) (fun _ _ _ h => h) (Or.inl ⟨by rfl, ?_⟩) hHeld ?_; rotate_left; focus (intro wS hSw; (have c0 := kept hSw hc0; have c1 := kept hSw hc1; have c2 := kept hSw hc2; have d0 := kept hSw hd0; have d1 := kept hSw hd1; have d2 := kept hSw hd2); go_simp; try with_reducible rfl; done)) | (refine wpAnyH_take (i := 7) (v := undef) nth7 (by kernel_rfl) (by kernel_rfl) (by kernel_rfl) (fun _ _ _ h => h) (Or.inr ⟨by rfl, rfl⟩) hHeld ?_)
        (try simp only [Act.put]); (try simp only [List.setIfInBounds_toArray]); (try simp only [List.set_cons_succ]); (try simp only [List.set_cons_zero])
        refine wpAnyH_ready (rs := [8]) (by kernel_rfl) (by simp) ?_
        refine AllReadyH.cons nth8 (fun K hK => ?_) AllReadyH.nil
        go_simp
        (go_at_call 26; refine (Q.out _).mono ?_; rintro e w' ⟨rfl, hb⟩)
        refine hK.out _ _ (Bel.then hHeld hb) (fun hHeld => ?_)
        clear hK K
        (try simp only [Act.put]); (try simp only [List.setIfInBounds_toArray]); (try simp only [List.set_cons_succ]); (try simp only [List.set_cons_zero])
        first | (refine wpAnyH_take (i := 9) (v := ?_) nth9 (by kernel_rfl) (by kernel_rfl) (by kernel_rfl) (fun _ _ _ h => h) (Or.inl ⟨by rfl, ?_⟩) hHeld ?_; rotate_left; focus (intro wS hSw; (have c0 := kept hSw hc0; have c1 := kept hSw hc1; have c2 := kept hSw hc2; have d0 := kept hSw hd0; have d1 := kept hSw hd1; have d2 := kept hSw hd2); go_simp; try with_reducible rfl; done)) | (refine wpAnyH_take (i := 9) (v := undef) nth9 (by kernel_rfl) (by kernel_rfl) (by kernel_rfl) (fun _ _ _ h => h) (Or.inr ⟨by rfl, rfl⟩) hHeld ?_)
        (try simp only [Act.put]); (try simp only [List.setIfInBounds_toArray]); (try simp only [List.set_cons_succ]); (try simp only [List.set_cons_zero])
        refine wpAnyH_done (by kernel_rfl) ?_ _
        have HB1 := hide (HB.out.trans (Below.mono hHeld HB.out.size))
        go_wp2_with fail
        go_roundw
        case rel => exact ⟨k + 1, by omega, by omega, by go_num, HB1, HX.out.symm⟩
        case measure => simp [intOf]; omega
      · have HX : Hid (cmpR r s = x) := HS.out.trans (if_neg hx)
        have f1 : (x != 0) = true := by simp [hx]
        clear hx
        go_wp2_with fail
        refine wp_region_held_drew (S := (fun w' => Below wr.heap.size wr w')) (by kernel_rfl) ((Below.refl _ _).drew) (fun hHeld => ?_)
        first | (refine wpAnyH_take (i := 0) (v := ?_) nth0 (by kernel_rfl) (by kernel_rfl) (by kernel_rfl) (fun _ _ _ h => h) (Or.inl ⟨by rfl, ?_⟩) hHeld ?_; rotate_left; focus (intro wS hSw; (have c0 := kept hSw hc0; have c1 := kept hSw hc1; have c2 := kept hSw hc2; have d0 := kept hSw hd0; have d1 := kept hSw hd1; have d2 := kept hSw hd2); go_simp; try with_reducible rfl; done)) | (refine wpAnyH_take (i := 0) (v := undef) nth0 (by kernel_rfl) (by kernel_rfl) (by kernel_rfl) (fun _ _ _ h => h) (Or.inr ⟨by rfl, rfl⟩) hHeld ?_)
        (try simp only [Act.put]); (try simp only [List.setIfInBounds_toArray]); (try simp only [List.set_cons_succ]); (try simp only [List.set_cons_zero])
        first | (refine wpAnyH_take (i := 1) (v := ?_) nth1 (by kernel_rfl) (by kernel_rfl) (by kernel_rfl) (fun _ _ _ h => h) (Or.inl ⟨by rfl, ?_⟩) hHeld ?_; rotate_left; focus (intro wS hSw; (have c0 := kept hSw hc0; have c1 := kept hSw hc1; have c2 := kept hSw hc2; have d0 := kept hSw hd0; have d1 := kept hSw hd1; have d2 := kept hSw hd2); go_simp; try with_reducible rfl; done)) | (refine wpAnyH_take (i := 1) (v := undef) nth1 (by kernel_rfl) (by kernel_rfl) (by kernel_rfl) (fun _ _ _ h => h) (Or.inr ⟨by rfl, rfl⟩) hHeld ?_)
        (try simp only [Act.put]); (try simp only [List.setIfInBounds_toArray]); (try simp only [List.set_cons_succ]); (try simp only [List.set_cons_zero])
        first | (refine wpAnyH_take (i := 2) (v := ?_) nth2 (by kernel_rfl) (by kernel_rfl) (by kernel_rfl) (fun _ _ _ h => h) (Or.inl ⟨by rfl, ?_⟩) hHeld ?_; rotate_left; focus (intro wS hSw; (have c0 := kept hSw hc0; have c1 := kept hSw hc1; have c2 := kept hSw hc2; have d0 := kept hSw hd0; have d1 := kept hSw hd1; have d2 := kept hSw hd2); go_simp; try with_reducible rfl; done)) | (refine wpAnyH_take (i := 2) (v := undef) nth2 (by kernel_rfl) (by kernel_rfl) (by kernel_rfl) (fun _ _ _ h => h) (Or.inr ⟨by rfl, rfl⟩) hHeld ?_)
        (try simp only [Act.put]); (try simp only [List.setIfInBounds_toArray]); (try simp only [List.set_cons_succ]); (try simp only [List.set_cons_zero])
        first | (refine wpAnyH_take (i := 3) (v := ?_) nth3 (by kernel_rfl) (by kernel_rfl) (by kernel_rfl) (fun _ _ _ h => h) (Or.inl ⟨by rfl, ?_⟩) hHeld ?_; rotate_left; focus (intro wS hSw; (have c0 := kept hSw hc0; have c1 := kept hSw hc1; have c2 := kept hSw hc2; have d0 := kept hSw hd0; have d1 := kept hSw hd1; have d2 := kept hSw hd2); go_simp; try with_reducible rfl; done)) | (refine wpAnyH_take (i := 3) (v := undef) nth3 (by kernel_rfl) (by kernel_rfl) (by kernel_rfl) (fun _ _ _ h => h) (Or.inr ⟨by rfl, rfl⟩) hHeld ?_)
        (try simp only [Act.put]); (try simp only [List.setIfInBounds_toArray]); (try simp only [List.set_cons_succ]); (try simp only [List.set_cons_zero])
        first | (refine wpAnyH_take (i := 4) (v := ?_) nth4 (by kernel_rfl) (by kernel_rfl) (by kernel_rfl) (fun _ _ _ h => h) (Or.inl ⟨by rfl, ?_⟩) hHeld ?_; rotate_left; focus (intro wS hSw; (have c0 := kept hSw hc0; have c1 := kept hSw hc1; have c2 := kept hSw hc2; have d0 := kept hSw hd0; have d1 := kept hSw hd1; have d2 := kept hSw hd2); go_simp; try with_reducible rfl; done)) | (refine wpAnyH_take (i := 4) (v := undef) nth4 (by kernel_rfl) (by kernel_rfl) (by kernel_rfl) (fun _ _ _ h => h) (Or.inr ⟨by rfl, rfl⟩) hHeld ?_)
        (try simp only [Act.put]); (try simp only [List.setIfInBounds_toArray]); (try simp only [List.set_cons_succ]); (try simp only [List.set_cons_zero])
        first | (refine wpAnyH_take (i := 5) (v := ?_) nth5 (by kernel_rfl) (by kernel_rfl) (by kernel_rfl) (fun _ _ _ h => h) (Or.inl ⟨by rfl, ?_⟩) hHeld ?_; rotate_left; focus (intro wS hSw; (have c0 := kept hSw hc0; have c1 := kept hSw hc1; have c2 := kept hSw hc2; have d0 := kept hSw hd0; have d1 := kept hSw hd1; have d2 := kept hSw hd2); go_simp; try with_reducible rfl; done)) | (refine wpAnyH_take (i := 5) (v := undef) nth5 (by kernel_rfl) (by kernel_rfl) (by kernel_rfl) (fun _ _ _ h => h) (Or.inr ⟨by rfl, rfl⟩) hHeld ?_)
        (try simp only [Act.put]); (try simp only [List.setIfInBounds_toArray]); (try simp only [List.set_cons_succ]); (try simp only [List.set_cons_zero])
        first | (refine wpAnyH_take (i := 6) (v := ?_) nth6 (by kernel_rfl) (by kernel_rfl) (by kernel_rfl) (fun _ _ _ h => h) (Or.inl ⟨by rfl, ?_⟩) hHeld ?_; rotate_left; focus (intro wS hSw; (have c0 := kept hSw hc0; have c1 := kept hSw hc1; have c2 := kept hSw hc2; have d0 := kept hSw hd0; have d1 := kept hSw hd1; have d2 := kept hSw hd2); go_simp; try with_reducible rfl; done)) | (refine wpAnyH_take (i := 6) (v := undef) nth6 (by kernel_rfl) (by kernel_rfl) (by kernel_rfl) (fun _ _ _ h => h) (Or.inr ⟨by rfl, rfl⟩) hHeld ?_)
        (try simp only [Act.put]); (try simp only [List.setIfInBounds_toArray]); (try simp only [List.set_cons_succ]); (try simp only [List.set_cons_zero])
        first | (refine wpAnyH_take (i := 7) (v := ?_) nth7 (by kernel_rfl) (by kernel_rfl) (by kernel_rfl) (fun _ _ _ h => h) (Or.inl ⟨by rfl, ?_⟩) hHeld ?_; rotate_left; focus (intro wS hSw; (have c0 := kept hSw hc0; have c1 := kept hSw hc1; have c2 := kept hSw hc2; have d0 := kept hSw hd0; have d1 := kept hSw hd1; have d2 := kept hSw hd2); go_simp; try with_reducible rfl; done)) | (refine wpAnyH_take (i := 7) (v := undef) nth7 (by kernel_rfl) (by kernel_rfl) (by kernel_rfl) (fun _ _ _ h => h) (Or.inr ⟨by rfl, rfl⟩) hHeld ?_)
        (try simp only [Act.put]); (try simp only [List.setIfInBounds_toArray]); (try simp only [List.set_cons_succ]); (try simp only [List.set_cons_zero])
        refine wpAnyH_ready (rs := [8]) (by kernel_rfl) (by simp) ?_
        refine AllReadyH.cons nth8 (fun K hK => ?_) AllReadyH.nil
        go_simp
        (go_at_call 26; refine (Q.out _).mono ?_; rintro e w' ⟨rfl, hb⟩)
        refine hK.out _ _ (Bel.then hHeld hb) (fun hHeld => ?_)
        clear hK K
        (try simp only [Act.put]); (try simp only [List.setIfInBounds_toArray]); (try simp only [List.set_cons_succ]); (try simp only [List.set_cons_zero])
        first | (refine wpAnyH_take (i := 9) (v := ?_) nth9 (by kernel_rfl) (by kernel_rfl) (by kernel_rfl) (fun _ _ _ h => h) (Or.inl ⟨by rfl, ?_⟩) hHeld ?_; rotate_left; focus (intro wS hSw; (have c0 := kept hSw hc0; have c1 := kept hSw hc1; have c2 := kept hSw hc2; have d0 := kept hSw hd0; have d1 := kept hSw hd1; have d2 := kept hSw hd2); go_simp; try with_reducible rfl; done)) | (refine wpAnyH_take (i := 9) (v := undef) nth9 (by kernel_rfl) (by kernel_rfl) (by kernel_rfl) (fun _ _ _ h => h) (Or.inr ⟨by rfl, rfl⟩) hHeld ?_)
        (try simp only [Act.put]); (try simp only [List.setIfInBounds_toArray]); (try simp only [List.set_cons_succ]); (try simp only [List.set_cons_zero])
        refine wpAnyH_done (by kernel_rfl) ?_ _
        have HB1 := hHeld
        have c0 := kept HB1 hc0
        have c1 := kept HB1 hc1
        have c2 := kept HB1 hc2
        have d0 := kept HB1 hd0
        have d1 := kept HB1 hd1
        have d2 := kept HB1 hd2
        go_wp2_with fail
        refine wp_region_held_drew (S := (fun w' => Below wr.heap.size wr w')) (by kernel_rfl) ((Below.drew HB1)) (fun hHeld => ?_)
        first | (refine wpAnyH_take (i := 0) (v := ?_) nth0 (by kernel_rfl) (by kernel_rfl) (by kernel_rfl) (fun _ _ _ h => h) (Or.inl ⟨by rfl, ?_⟩) hHeld ?_; rotate_left; focus (intro wS hSw; (have c0 := kept hSw hc0; have c1 := kept hSw hc1; have c2 := kept hSw hc2; have d0 := kept hSw hd0; have d1 := kept hSw hd1; have d2 := kept hSw hd2); go_simp; try with_reducible rfl; done)) | (refine wpAnyH_take (i := 0) (v := undef) nth0 (by kernel_rfl) (by kernel_rfl) (by kernel_rfl) (fun _ _ _ h => h) (Or.inr ⟨by rfl, rfl⟩) hHeld ?_)
        (try simp only [Act.put]); (try simp only [List.setIfInBounds_toArray]); (try simp only [List.set_cons_succ]); (try simp only [List.set_cons_zero])
        first | (refine wpAnyH_take (i := 1) (v := ?_) nth1 (by kernel_rfl) (by kernel_rfl) (by kernel_rfl) (fun _ _ _ h => h) (Or.inl ⟨by rfl, ?_⟩) hHeld ?_; rotate_left; focus (intro wS hSw; (have c0 := kept hSw hc0; have c1 := kept hSw hc1; have c2 := kept hSw hc2; have d0 := kept hSw hd0; have d1 := kept hSw hd1; have d2 := kept hSw hd2); go_simp; try with_reducible rfl; done)) | (refine wpAnyH_take (i := 1) (v := undef) nth1 (by kernel_rfl) (by kernel_rfl) (by kernel_rfl) (fun _ _ _ h => h) (Or.inr ⟨by rfl, rfl⟩) hHeld ?_)
        (try simp only [Act.put]); (try simp only [List.setIfInBounds_toArray]); (try simp only [List.set_cons_succ]); (try simp only [List.set_cons_zero])
        first | (refine wpAnyH_take (i := 2) (v := ?_) nth2 (by kernel_rfl) (by kernel_rfl) (by kernel_rfl) (fun _ _ _ h => h) (Or.inl ⟨by rfl, ?_⟩) hHeld ?_; rotate_left; focus (intro wS hSw; (have c0 := kept hSw hc0; have c1 := kept hSw hc1; have c2 := kept hSw hc2; have d0 := kept hSw hd0; have d1 := kept hSw hd1; have d2 := kept hSw hd2); go_simp; try with_reducible rfl; done)) | (refine wpAnyH_take (i := 2) (v := undef) nth2 (by kernel_rfl) (by kernel_rfl) (by kernel_rfl) (fun _ _ _ h => h) (Or.inr ⟨by rfl, rfl⟩) hHeld ?_)
        (try simp only [Act.put]); (try simp only [List.setIfInBounds_toArray]); (try simp only [List.set_cons_succ]); (try simp only [List.set_cons_zero])
        first | (refine wpAnyH_take (i := 3) (v := ?_) nth3 (by kernel_rfl) (by kernel_rfl) (by kernel_rfl) (fun _ _ _ h => h) (Or.inl ⟨by rfl, ?_⟩) hHeld ?_; rotate_left; focus (intro wS hSw; (have c0 := kept hSw hc0; have c1 := kept hSw hc1; have c2 := kept hSw hc2; have d0 := kept hSw hd0; have d1 := kept hSw hd1; have d2 := kept hSw hd2); go_simp; try with_reducible rfl; done)) | (refine wpAnyH_take (i := 3) (v := undef) nth3 (by kernel_rfl) (by kernel_rfl) (by kernel_rfl) (fun _ _ _ h => h) (Or.inr ⟨by rfl, rfl⟩) hHeld ?_)
        (try simp only [Act.put]); (try simp only [List.setIfInBounds_toArray]); (try simp only [List.set_cons_succ]); (try simp only [List.set_cons_zero])
        first | (refine wpAnyH_take (i := 4) (v := ?_) nth4 (by kernel_rfl) (by kernel_rfl) (by kernel_rfl) (fun _ _ _ h => h) (Or.inl ⟨by rfl, ?_⟩) hHeld ?_; rotate_left; focus (intro wS hSw; (have c0 := kept hSw hc0; have c1 := kept hSw hc1; have c2 := kept hSw hc2; have d0 := kept hSw hd0; have d1 := kept hSw hd1; have d2 := kept hSw hd2); go_simp; try with_reducible rfl; done)) | (refine wpAnyH_take (i := 4) (v := undef) nth4 (by kernel_rfl) (by kernel_rfl) (by kernel_rfl) (fun _ _ _ h => h) (Or.inr ⟨by rfl, rfl⟩) hHeld ?_)
        (try simp only [Act.put]); (try simp only [List.setIfInBounds_toArray]); (try simp only [List.set_cons_succ]); (try simp only [List.set_cons_zero])
        first | (refine wpAnyH_take (i := 5) (v := ?_) nth5 (by kernel_rfl) (by kernel_rfl) (by kernel_rfl) (fun _ _ _ h => h) (Or.inl ⟨by rfl, ?_⟩) hHeld ?_; rotate_left; focus (intro wS hSw; (have c0 := kept hSw hc0; have c1 := kept hSw hc1; have c2 := kept hSw hc2; have d0 := kept hSw hd0; have d1 := kept hSw hd1; have d2 := kept hSw hd2); go_simp; try with_reducible rfl; done)) | (refine wpAnyH_take (i := 5) (v := undef) nth5 (by kernel_rfl) (by kernel_rfl) (by kernel_rfl) (fun _ _ _ h => h) (Or.inr ⟨by rfl, rfl⟩) hHeld ?_)
        (try simp only [Act.put]); (try simp only [List.setIfInBounds_toArray]); (try simp only [List.set_cons_succ]); (try simp only [List.set_cons_zero])
        first | (refine wpAnyH_take (i := 6) (v := ?_) nth6 (by kernel_rfl) (by kernel_rfl) (by kernel_rfl) (fun _ _ _ h => h) (Or.inl ⟨by rfl, ?_⟩) hHeld ?_; rotate_left; focus (intro wS hSw; (have c0 := kept hSw hc0; have c1 := kept hSw hc1; have c2 := kept hSw hc2; have d0 := kept hSw hd0; have d1 := kept hSw hd1; have d2 := kept hSw hd2); go_simp; try with_reducible rfl; done)) | (refine wpAnyH_take (i := 6) (v := undef) nth6 (by kernel_rfl) (by kernel_rfl) (by kernel_rfl) (fun _ _ _ h => h) (Or.inr ⟨by rfl, rfl⟩) hHeld ?_)
        (try simp only [Act.put]); (try simp only [List.setIfInBounds_toArray]); (try simp only [List.set_cons_succ]); (try simp only [List.set_cons_zero])
        first | (refine wpAnyH_take (i := 7) (v := ?_) nth7 (by kernel_rfl) (by kernel_rfl) (by kernel_rfl) (fun _ _ _ h => h) (Or.inl ⟨by rfl, ?_⟩) hHeld ?_; rotate_left; focus (intro wS hSw; (have c0 := kept hSw hc0; have c1 := kept hSw hc1; have c2 := kept hSw hc2; have d0 := kept hSw hd0; have d1 := kept hSw hd1; have d2 := kept hSw hd2); go_simp; try with_reducible rfl; done)) | (refine wpAnyH_take (i := 7) (v := undef) nth7 (by kernel_rfl) (by kernel_rfl) (by kernel_rfl) (fun _ _ _ h => h) (Or.inr ⟨by rfl, rfl⟩) hHeld ?_)
        (try simp only [Act.put]); (try simp only [List.setIfInBounds_toArray]); (try simp only [List.set_cons_succ]); (try simp only [List.set_cons_zero])
        refine wpAnyH_ready (rs := [8]) (by kernel_rfl) (by simp) ?_
        refine AllReadyH.cons nth8 (fun K hK => ?_) AllReadyH.nil
        go_simp
        (go_at_call 26; refine (Q.out _).mono ?_; rintro e w' ⟨rfl, hb⟩)
        refine hK.out _ _ (Bel.then hHeld hb) (fun hHeld => ?_)
        clear hK K
        (try simp only [Act.put]); (try simp only [List.setIfInBounds_toArray]); (try simp only [List.set_cons_succ]); (try simp only [List.set_cons_zero])
        first | (refine wpAnyH_take (i := 9) (v := ?_) nth9 (by kernel_rfl) (by kernel_rfl) (by kernel_rfl) (fun _ _ _ h => h) (Or.inl ⟨by rfl, ?_⟩) hHeld ?_; rotate_left; focus (intro wS hSw; (have c0 := kept hSw hc0; have c1 := kept hSw hc1; have c2 := kept hSw hc2; have d0 := kept hSw hd0; have d1 := kept hSw hd1; have d2 := kept hSw hd2); go_simp; try with_reducible rfl; done)) | (refine wpAnyH_take (i := 9) (v := undef) nth9 (by kernel_rfl) (by kernel_rfl) (by kernel_rfl) (fun _ _ _ h => h) (Or.inr ⟨by rfl, rfl⟩) hHeld ?_)
        (try simp only [Act.put]); (try simp only [List.setIfInBounds_toArray]); (try simp only [List.set_cons_succ]); (try simp only [List.set_cons_zero])
        refine wpAnyH_done (by kernel_rfl) ?_ _
        have HB2 := hide (HB.out.trans (Below.mono hHeld HB.out.size))
        go_wp2_with fail
        go_ret
        exact ⟨ret_int HX.out.symm, HB2.out⟩
    · have hst := HR.out.symm.trans (cmpR_end (by omega) (by omega) (by omega))
      rw [l1, l2] at hst
      have HS := hide hst
      clear hst
      rcases (show ¬ k < n ∨ (k < n ∧ ¬ k < n2) by omega) with h1 | ⟨h1, h2⟩
      all_goals
        clear hgo
        go_wp2_with (go_at_call 27; refine (ints_c _ _ _).mono ?_; rintro e w' ⟨rfl, rfl⟩)
        go_ret
        exact ⟨ret_int HS.out.symm, HB.out⟩
end Go.Proofs.Ytahdkfenpflahaa
namespace Go.Proofs.Ytahdkfenpflahaa
set_option linter.unusedVariables false
open Go.ChangeShapes Go.WideShapes Go.ChangeAt Go.RowKit Go.Deep

def OkV (v : ValV) : Prop := (-9223372036854775808 ≤ v.num ∧ v.num ≤ 9223372036854775807) ∧ v.str.size ≤ 1048576
theorem one_str : Try.prog.cellsOf 9 = 1 := by kernel_rfl
theorem one_int : Try.prog.cellsOf 3 = 1 := by kernel_rfl
section
variable {H : Type} {enc : TypeId × Value → H} {w : World} {base : Nat} {spare : Nat → Bool} {held : Bool}
theorem open_val {n : Nat} {vs : List Value} {y : DataW H × List MemPlace} {M : Nat} (hl : vs.length = 3) (h : DataW.trod enc Try.prog w base spare held n 44 vs = some y) (hM : Rows.uptoBulk y.1 ≤ M) :
    ∃ a : ValV, vs = valCells a ∧ ((-9223372036854775808 ≤ a.num ∧ a.num ≤ 9223372036854775807) ∧ a.str.size ≤ M) := by
  obtain ⟨a, b, c, y0, y1, y2, m, rfl, hy, f0, f1, f2⟩ := open_fields3 Try.underlying44 (by kernel_rfl) hl h
  obtain ⟨k, e0, _, _⟩ := DataW.trod_int Try.underlying3 f0
  obtain ⟨n, e1, _, hn⟩ := DataW.trod_int Try.underlying3 f1
  obtain ⟨s, e2, hs, _⟩ := DataW.trod_string Try.underlying9 f2
  simp only [List.cons.injEq, and_true] at e0 e1 e2
  subst e0 e1 e2
  refine ⟨⟨k, n, s⟩, rfl, bounds_i64 hn, ?_⟩
  have h1 := bulk_parts [y0.1, y1.1, y2.1]
  have h2 : Rows.uptoBulk y2.1 ≤ Rows.uptoBulkAll [y0.1, y1.1, y2.1] := bulk_mem (by simp)
  have h3 := bulk_str (H := H) s
  rw [hy] at hM
  rw [hs] at h1 h2 hM
  simp only at *
  omega
theorem open_vrow {n : Nat} {cs : List Value} {x : DataW H × List MemPlace} {M : Nat} (hM : Rows.uptoBulk x.1 ≤ M) (h : DataW.trod enc Try.prog w base spare held n 23 cs = some x) :
    ∃ A N C l, cs = [.slice A N C] ∧ RowAt w w.heap.size A N C l ∧ N ≤ M ∧ ∀ a ∈ l, (-9223372036854775808 ≤ a.num ∧ a.num ≤ 9223372036854775807) ∧ a.str.size ≤ M := by
  have hf : ∀ n vs y, vs.length = 3 → DataW.trod enc Try.prog w base spare held n 44 vs = some y → Rows.uptoBulk y.1 ≤ M → ∃ a : ValV, vs = valCells a ∧ ((-9223372036854775808 ≤ a.num ∧ a.num ≤ 9223372036854775807) ∧ a.str.size ≤ M) := fun n vs y hl hy hb => open_val hl hy hb
  obtain ⟨A, N, C, l, rfl, h1, h2, h3, h4, h5, h6, h7⟩ := open_elems (α := ValV) valCells (Good := fun a => (-9223372036854775808 ≤ a.num ∧ a.num ≤ 9223372036854775807) ∧ a.str.size ≤ M) Try.underlying23 (k := 3) (by kernel_rfl) (by omega) Rows.uptoBulk bulk_el bulk_le hM hf h
  exact ⟨A, N, C, l, rfl, ⟨h4, h1, h2, h3, h6⟩, h5, h7⟩
theorem open_valT {v : Value} {d : DataW H} {p : List MemPlace} (hok : Value.okWide Try.prog w .any base 44 v) (h : DataW.Trod enc Try.prog w 0 (fun _ => true) true 44 v d p) (hM : Rows.uptoBulk d ≤ 1048576) : ∃ a : ValV, v = valAgg a ∧ OkV a := by
  obtain ⟨cs, rfl, hsz⟩ := okWide_struct Try.underlying44 hok
  have hC : Try.prog.cellsOf 44 = 3 := by kernel_rfl
  rw [hC] at hsz
  obtain ⟨fuel, hf⟩ := h
  obtain ⟨a, ha, h1, h2⟩ := open_val (M := 1048576) (vs := cs.toList) (by rw [Array.length_toList]; exact hsz) hf hM
  refine ⟨a, ?_, h1, h2⟩
  obtain ⟨l⟩ := cs
  simp only at ha
  rw [ha]
  rfl
theorem open_rowT {v : Value} {d : DataW H} {p : List MemPlace} (hok : Value.okWide Try.prog w .any base 23 v) (h : DataW.Trod enc Try.prog w 0 (fun _ => true) true 23 v d p) (hM : Rows.uptoBulk d ≤ 1048576) : ∃ A N C l, v = .slice A N C ∧ RowAt w w.heap.size A N C l ∧ N ≤ 1048576 ∧ ∀ a ∈ l, OkV a := by
  obtain ⟨n, h0⟩ := h
  obtain ⟨A, N, C, l, e, h1, h2, h3⟩ := open_vrow (M := 1048576) (by simpa using hM) h0
  obtain ⟨a0, len0, cap0, rfl⟩ := okWide_slice Try.underlying23 hok
  simp [Value.cells] at e
  obtain ⟨rfl, rfl, rfl⟩ := e
  exact ⟨_, _, _, l, rfl, h1, h2, h3⟩
end
end Go.Proofs.Ytahdkfenpflahaa
namespace Go.Proofs.Ytahdkfenpflahaa
set_option linter.unusedVariables false
open Go.ChangeShapes Go.WideShapes Go.ChangeAt Go.RowKit

theorem num_c (n : Int) (w : World) : Calls Try.prog 24 #[.int .i64 n] w fun e w' => e = .returned (valAgg ⟨2, n, .empty⟩) ∧ Below w.heap.size w w' := by
  go_enter Try.func24, Try.ntmps24
  go_wp2
  exact bodyPost_ret (v := valAgg ⟨2, n, .empty⟩) (by simp [results, Try.results24, go_sem, valAgg] <;> rfl) rfl ⟨rfl, by go_grown⟩
end Go.Proofs.Ytahdkfenpflahaa
namespace Go.Proofs.Ytahdkfenpflahaa
set_option linter.unusedVariables false
open Go.ChangeShapes Go.WideShapes Go.ChangeAt Go.RowKit

/-- A slice in new memory. -/
def GivesSl {α : Type} (f : α → List Value) (k : Nat) (w : World) (l : List α) (e : Ending) (w' : World) : Prop := ∃ A c, e = .returned (.slice A l.length c) ∧ SlAt f k w' w'.heap.size A l.length c l ∧ Below w.heap.size w w' ∧ FreshA w.heap.size A
theorem value_info : (Try.prog.info? 44).map (fun i => (i.zero, i.size, i.bytes)) = some (some (.agg #[.int .i64 0, .int .i64 0, .string .empty]), 3, 32) := by kernel_rfl
theorem valCells_len (v : ValV) : (valCells v).length = 3 := rfl
set_option maxRecDepth 100000 in
set_option maxHeartbeats 1000000 in
theorem flat_c (A : Option Addr) (n c : Nat) (r : List ValV) (w : World) (h : RowAt w w.heap.size A n c r) (hn : n ≤ 1048576) :
    Calls Try.prog 46 #[.slice A n c] w fun e w' => GivesSl valCells 3 w r e w' := by
  obtain ⟨i0, hi0, hz0, hz1, hz2⟩ := info_parts value_info
  have hl := h.len
  by_cases h0 : n = 0
  · subst h0
    obtain rfl : r = [] := List.eq_nil_of_length_eq_zero hl
    go_enter Try.func46, Try.ntmps46
    go_wp2
    go_ret
    exact ⟨none, 0, rfl, SlAt.empty _ _ _ _, Below.refl _ _, fun ad e => by cases e⟩
  · obtain ⟨b, off, e, hb, hc⟩ := h.recs.2 (by rw [flat_len _ 3 h.recs.1, List.length_map, hl]; omega)
    subst e
    have hfl : (r.map valCells).flatten.length = n * 3 := by rw [flat_len _ 3 h.recs.1, List.length_map, hl]
    have h1 : ∀ v ∈ (r.map valCells).flatten, v.oneCell' = true := by
      intro v hv
      obtain ⟨xs, hx, hvx⟩ := List.mem_flatten.1 hv
      obtain ⟨a, _, rfl⟩ := List.mem_map.1 hx
      simp [valCells] at hvx
      rcases hvx with rfl | rfl | rfl <;> rfl
    have HC := hide hc
    have H1 := hide h1
    have HF := hide hfl
    have hnz : ((n : Int) == 0) = false := by simp; omega
    have hnI : (n : Int) ≤ 1048576 := by omega
    have HL := hide hl
    clear h hc h1 hfl h0 hl
    go_enter Try.func46, Try.ntmps46
    go_wp2_with (first
      | (at_make; refine wpList_make_full _ rfl (.tmp 8) (.tmp 8) 23 rfl w.heap.size 44 i0 _ 3 Try.underlying23 hi0 hz0 hz1 .i64 .i64 n n n rfl rfl rfl rfl (by rw [hz2]; omega) (by unfold maxLen; omega) (Nat.le_refl _) ?_; intro w1 hown1 hg1
         have HO1 := hide hown1
         have HB1 := hide ((Below.refl w.heap.size w).grown hg1 (Nat.le_refl _) (fun k hk => by cases hk))
         clear hown1 hg1)
      | ((with_reducible refine wpList_copy_row rfl (.tmp 10) (.tmp 11) 23 23 rfl 44 3 Try.underlying23 (by rw [hi0]; simp [hz1]) w.heap.size w.heap.size n c ⟨b, off, none⟩ _ (r.map valCells).flatten rfl rfl HO1.out HF.out (fun j v hj => by rw [add_off]; exact (HB1.out.cell (p := ⟨b, off + j, none⟩) hb).trans (HC.out j v hj)) H1.out ?_); intro w2 hown2 hb2 hsz2
         have HO2 := hide hown2
         have HB2 := hide (HB1.out.trans hb2)
         clear hown2 hb2 hsz2))
    go_ret
    have hl2 := HL.out
    subst hl2
    obtain ⟨A', c', e, hS⟩ := sl_of_own HO2.out valCells_len
    injection e with e1 e2 e3
    subst e1 e3
    exact ⟨_, _, rfl, hS, HB2.out, FreshA.new (Nat.le_refl _)⟩
theorem row_c (A : Option Addr) (n c : Nat) (r : List ValV) (w : World) (h : RowAt w w.heap.size A n c r) (hn : n ≤ 1048576) :
    Calls Try.prog 40 #[.slice A n c] w fun e w' => GivesSl valCells 3 w r e w' := by
  have Q := hide (flat_c A n c r w h hn)
  clear h hn
  go_enter Try.func40, Try.ntmps40
  go_wp2_with fail
  refine Q.out.mono ?_
  rintro e w1 ⟨X, cx, rfl, hX, hb, hf⟩
  go_wp2_with fail
  go_ret
  exact ⟨X, cx, rfl, hX, hb, hf⟩
end Go.Proofs.Ytahdkfenpflahaa
namespace Go.Proofs.Ytahdkfenpflahaa
set_option linter.unusedVariables false
open Go.ChangeShapes Go.WideShapes Go.ChangeAt Go.RowKit

abbrev RowsAt := NestAt valCells 3
theorem row_info : (Try.prog.info? 23).map (fun i => (i.zero, i.size, i.bytes)) = some (some (.slice none 0 0), 1, 24) := by kernel_rfl
/-- A slice of slices in new memory. -/
def GivesNest {α : Type} (f : α → List Value) (k : Nat) (w : World) (rows : List (List α)) (e : Ending) (w' : World) : Prop := ∃ A c, e = .returned (.slice A rows.length c) ∧ NestAt f k w' w'.heap.size A rows.length c rows ∧ Below w.heap.size w w' ∧ FreshA w.heap.size A
/-- Slices that are done, and the rest nil. -/
def doneV (ds : List ListV) (n : Nat) : List Value := (ds.map fun l => .slice l.A l.n l.c) ++ List.replicate (n - ds.length) (.slice none 0 0)
theorem doneV_set (ds : List ListV) (n : Nat) (m : ListV) (h : ds.length < n) : (doneV ds n).set ds.length (.slice m.A m.n m.c) = doneV (ds ++ [m]) n := by
  unfold doneV
  obtain ⟨d, hd⟩ : ∃ d, n - ds.length = d + 1 := ⟨n - ds.length - 1, by omega⟩
  rw [hd, List.replicate_succ, List.set_append_right _ _ (by simp)]
  simp only [List.length_map, Nat.sub_self, List.set_cons_zero, List.map_append, List.map_cons, List.map_nil, List.append_assoc, List.length_append, List.length_cons, List.length_nil]
  rw [show n - (ds.length + (0 + 1)) = d by omega]
  rfl
/-- What the loop of Each holds. -/
structure EachR (w : World) (rows : List (List ValV)) (n : Nat) (wr : World) (ds : List ListV) : Prop where
  own : wr.ownsRow w.heap.size 23 1 (.slice (some ⟨w.heap.size, 0, none⟩) n n) n (doneV ds n)
  each : ∀ (i : Nat) m r, ds[i]? = some m → rows[i]? = some r → SlAt valCells 3 wr wr.heap.size m.A m.n m.c r
  fresh : ∀ m ∈ ds, FreshA (w.heap.size + 1) m.A
  below : Below w.heap.size w wr
theorem made_nil (n : Nat) : (madeCells (Value.slice none 0 0).cells (n * 1)).toList = doneV [] n := by
  unfold madeCells doneV
  rw [Nat.mul_one]
  apply List.ext_getElem
  · simp
  · intro i h1 h2
    simp [Value.cells, Nat.mod_one]
theorem own_lt {w : World} {base g n c size : Nat} {e : TypeId} {xs : List Value} (h : w.ownsRow base e size (.slice (some ⟨g, 0, none⟩) n c) n xs) : g < w.heap.size := by
  rcases h.2 with ⟨h', _⟩ | ⟨g', cap', cur, h', _, hg, _⟩
  · simp at h'
  · simp only [Value.slice.injEq, Option.some.injEq, Addr.mk.injEq, and_true, true_and] at h'
    obtain ⟨rfl, rfl⟩ := h'
    exact (Array.getElem?_eq_some_iff.1 hg).1
theorem doneV_len (ds : List ListV) (n : Nat) (h : ds.length ≤ n) : (doneV ds n).length = n := by simp [doneV]; omega
theorem doneV_full (ds : List ListV) (n : Nat) (h : ds.length = n) : doneV ds n = (ds.map listVal).flatten := by simp [doneV, h, listVal_flat]
/-- A new row that the call owns. -/
def GivesEach (w : World) (rows : List (List ValV)) (n : Nat) (e : Ending) (w' : World) : Prop := 0 < n → e = .returned (.slice (some ⟨w.heap.size, 0, none⟩) n n) ∧ ∃ ds, ds.length = n ∧ EachR w rows n w' ds
set_option maxRecDepth 100000 in
set_option maxHeartbeats 2000000 in
theorem each_c (A : Option Addr) (n c : Nat) (rows : List (List ValV)) (w : World) (h : RowsAt w w.heap.size A n c rows) (hn : n ≤ 1048576) (hr : ∀ r ∈ rows, r.length ≤ 1048576) :
    Calls Try.prog 39 #[.slice A n c, .func (.func 40) #[] #[]] w fun e w' => GivesNest valCells 3 w rows e w' ∧ GivesEach w rows n e w' := by
  obtain ⟨i0, hi0, hz0, hz1, hz2⟩ := info_parts row_info
  have hl := h.len
  by_cases h0 : n = 0
  · subst h0
    obtain rfl : rows = [] := List.eq_nil_of_length_eq_zero hl
    go_enter Try.func39, Try.ntmps39
    go_wp2
    go_ret
    exact ⟨⟨none, 0, rfl, NestAt.empty _ _ _ _, Below.refl _ _, fun ad e => by cases e⟩, fun h => absurd h (by omega)⟩
  · have H := hide h
    have HR := hide hr
    have HL := hide hl
    have hnz : ((n : Int) == 0) = false := by simp; omega
    have hnI : (n : Int) ≤ 1048576 := by omega
    clear h hr hl h0
    go_enter Try.func39, Try.ntmps39
    go_wp2_with (at_make; refine wpList_make_full _ rfl (.tmp 12) (.tmp 12) 29 rfl w.heap.size 23 i0 _ 1 Try.underlying29 hi0 hz0 hz1 .i64 .i64 n n n rfl rfl rfl rfl (by rw [hz2]; omega) (by unfold maxLen; omega) (Nat.le_refl _) ?_; intro w1 hown1 hg1)
    have hm : (madeCells (Value.slice none 0 0).cells (n * 1)).toList = doneV [] n := made_nil n
    rw [hm] at hown1
    have HO1 := hide hown1
    have HB1 := hide ((Below.refl w.heap.size w).grown hg1 (Nat.le_refl _) (fun k hk => by cases hk))
    clear hown1 hg1 hm
    go_loopw [16] (fun i wr => ∃ ds : List ListV, ds.length ≤ n ∧ i = .int .i64 ds.length ∧ Hid (EachR w rows n wr ds)) (fun i _ => n - (intOf i).toNat)
    case atStart => exact ⟨[], Nat.zero_le _, rfl, ⟨HO1.out, by simp, by simp, HB1.out⟩⟩
    case round =>
      obtain ⟨ds, hd, rfl, HE⟩ := hrel
      by_cases hlt : ds.length < n
      · obtain ⟨b, off, A1, n1, c1, r, rfl, hb, hrw, hcell, hrow⟩ := (H.out.below HE.out.below).one hlt
        have hr1 := HR.out r (List.mem_of_getElem? hrw)
        have Q := hide (row_c A1 n1 c1 r wr (hrow.more HE.out.below.size) (by have := hrow.len; omega))
        have hlen := hrow.len
        clear hrow
        generalize hK : ds.length = K at *
        go_wp2_with fail
        refine Q.out.mono ?_
        rintro e w2 ⟨X, cx, rfl, hX, hb2, hf2⟩
        have hown := own_below HE.out.own hb2
        have hcK := hown.cellAt K (by omega)
        rw [List.getElem?_eq_getElem (by rw [doneV_len _ _ (by omega)]; omega)] at hcK
        have hfK := hown.frozenAt K
        have hst := (hown.stored K (.slice X r.length cx)).1
        rw [← hK, doneV_set ds n ⟨X, r.length, cx⟩ (by omega)] at hst
        have HST := hide hst
        have HX := hide (SlAt.set hX (p := ⟨w.heap.size, K, none⟩) (hf2.mono (own_lt HE.out.own)) (.slice X r.length cx))
        have HB2 := hide (HE.out.below.trans (hb2.mono HE.out.below.size))
        have HE2 := hide (fun (i : Nat) m r' h1 h2 => ((HE.out.each i m r' h1 h2).kept hb2).set (p := ⟨w.heap.size, K, none⟩) (HE.out.fresh m (List.mem_of_getElem? h1)) (.slice X r.length cx))
        rw [hK] at HST
        clear hown hst hX
        go_wp2_with fail
        go_roundw
        case rel =>
          refine ⟨ds ++ [⟨X, r.length, cx⟩], by simp; omega, by simp [hK], ⟨by rw [← hlen]; exact HST.out, ?_, ?_, ?_⟩⟩
          · intro i m r' h1 h2
            rcases Nat.lt_trichotomy i K with hi | rfl | hi
            · rw [List.getElem?_append_left (by omega)] at h1
              have := HE2.out i m r' h1 h2
              rw [World.size_setCell, ← hlen]
              exact this
            · rw [← hK, List.getElem?_concat_length] at h1
              injection h1 with h1
              subst h1
              rw [hrw] at h2
              injection h2 with h2
              subst h2
              have := HX.out
              rw [World.size_setCell, ← hlen]
              exact this
            · rw [List.getElem?_eq_none (by simp; omega)] at h1
              cases h1
          · intro m hm
            rcases List.mem_append.1 hm with hm | hm
            · exact HE.out.fresh m hm
            · obtain rfl := List.mem_singleton.1 hm
              exact hf2.mono (own_lt HE.out.own)
          · exact Below.setCell HB2.out (p := ⟨w.heap.size, K, none⟩) (Nat.le_refl _) _
        case measure => simp [intOf]; omega
      · have hK : ds.length = n := by omega
        go_wp2_with fail
        go_ret
        have ho := HE.out.own
        rw [doneV_full ds n hK] at ho
        have hl := HL.out
        subst hK
        obtain ⟨A2, c2, e2, hN⟩ := nest_of_own (rows := rows) ho HL.out (HE.out.each)
        injection e2 with e1 e2 e3
        subst e1 e3
        refine ⟨⟨some ⟨w.heap.size, 0, none⟩, ds.length, ?_, ?_, HE.out.below, FreshA.new (Nat.le_refl _)⟩, fun _ => ⟨rfl, ds, rfl, HE.out⟩⟩
        · rw [hl]; rfl
        · rw [hl]; exact hN
end Go.Proofs.Ytahdkfenpflahaa
namespace Go.Proofs.Ytahdkfenpflahaa
set_option linter.unusedVariables false

theorem cmpV_refl (a : ValV) : cmpV a a = 0 := cmpV_zero.2 rfl
theorem cmpR_refl : ∀ r : List ValV, cmpR r r = 0
  | [] => rfl
  | a :: l => by simp only [cmpR, cmpV_refl, if_true, cmpR_refl l]
theorem cmpR_neg : ∀ r s : List ValV, cmpR s r = -cmpR r s
  | [], [] => rfl
  | [], _ :: _ => rfl
  | _ :: _, [] => rfl
  | a :: l, b :: m => by
    have h1 := cmpV_neg a b
    have h2 := cmpR_neg l m
    simp only [cmpR]
    by_cases h : cmpV a b = 0
    · rw [if_pos h, if_pos (by omega), h2]
    · rw [if_neg h, if_neg (by omega), h1]
theorem cmpR_trans : ∀ r s t : List ValV, cmpR r s ≤ 0 → cmpR s t ≤ 0 → cmpR r t ≤ 0
  | [], s, [], _, _ => by simp [cmpR]
  | [], s, _ :: _, _, _ => by simp [cmpR]
  | _ :: _, [], t, h, _ => by simp [cmpR] at h
  | _ :: _, _ :: _, [], _, h => by simp [cmpR] at h
  | a :: l, b :: m, c :: k, h, g => by
    simp only [cmpR] at *
    have tr := cmpV_trans a b c
    have lv := cmpV_level a b c
    have ih := cmpR_trans l m k
    by_cases h1 : cmpV a b = 0
    · rw [if_pos h1] at h
      by_cases h2 : cmpV b c = 0
      · rw [if_pos h2] at g
        have e1 := cmpV_zero.1 h1
        have e2 := cmpV_zero.1 h2
        rw [if_pos (by rw [e1, e2]; exact cmpV_refl c)]
        exact ih h g
      · rw [if_neg h2] at g
        have e1 := cmpV_zero.1 h1
        rw [e1, if_neg h2]
        exact g
    · rw [if_neg h1] at h
      have gg : cmpV b c ≤ 0 := by
        by_cases h2 : cmpV b c = 0
        · omega
        · rw [if_neg h2] at g; exact g
      have t3 := tr h gg
      by_cases h3 : cmpV a c = 0
      · exact absurd (lv h gg h3).1 h1
      · rw [if_neg h3]; exact t3
theorem cmpR_more : ∀ (r : List ValV) (v : ValV), cmpR r (r ++ [v]) = -1
  | [], v => rfl
  | a :: l, v => by
    simp only [List.cons_append, cmpR, cmpV_refl, if_true]
    exact cmpR_more l v
theorem cmpR_ahead : ∀ (r s : List ValV) (v : ValV), cmpR r s < 0 → s.length ≤ r.length → cmpR (r ++ [v]) s ≤ 0
  | [], [], v, h, _ => by simp [cmpR] at h
  | [], _ :: _, v, _, h => by simp at h
  | _ :: _, [], v, h, _ => by simp [cmpR] at h
  | a :: l, b :: m, v, h, g => by
    simp only [List.cons_append, cmpR] at *
    by_cases h1 : cmpV a b = 0
    · rw [if_pos h1] at *
      exact cmpR_ahead l m v h (by simpa using g)
    · rw [if_neg h1] at *
      omega
end Go.Proofs.Ytahdkfenpflahaa
namespace Go.Proofs.Ytahdkfenpflahaa
set_option linter.unusedVariables false

theorem cmpR_zero : ∀ {r s : List ValV}, cmpR r s = 0 ↔ r = s
  | [], [] => by simp [cmpR]
  | [], _ :: _ => by simp [cmpR]
  | _ :: _, [] => by simp [cmpR]
  | a :: l, b :: m => by
    have ih := @cmpR_zero l m
    have hz := @cmpV_zero a b
    simp only [cmpR]
    by_cases h : cmpV a b = 0
    · rw [if_pos h, ih, hz.1 h]
      simp
    · rw [if_neg h]
      constructor
      · intro g; exact absurd g h
      · intro g; exact absurd (hz.2 (List.cons.inj g).1) h
theorem cmpR_anti {r s : List ValV} (h : cmpR r s ≤ 0) (g : cmpR s r ≤ 0) : r = s := by
  have := cmpR_neg r s
  exact cmpR_zero.1 (by omega)
/-- A list of rows that rises. -/
def Rises (l : List (List ValV)) : Prop := l.Pairwise fun a b => cmpR a b ≤ 0
theorem rises_unique : ∀ (l m : List (List ValV)), l.Perm m → Rises l → Rises m → l = m
  | [], m, h, _, _ => (List.Perm.nil_eq h)
  | a :: l, [], h, _, _ => absurd h.length_eq (by simp)
  | a :: l, b :: m, h, hl, hm => by
    have ab : a = b := by
      have h1 : b ∈ a :: l := h.mem_iff.2 List.mem_cons_self
      have h2 : a ∈ b :: m := h.mem_iff.1 List.mem_cons_self
      rcases List.mem_cons.1 h1 with e | h1
      · exact e.symm
      · rcases List.mem_cons.1 h2 with e | h2
        · exact e
        · exact cmpR_anti ((List.pairwise_cons.1 hl).1 b h1) ((List.pairwise_cons.1 hm).1 a h2)
    subst ab
    rw [rises_unique l m (List.Perm.cons_inv h) (List.pairwise_cons.1 hl).2 (List.pairwise_cons.1 hm).2]
/-- How many rows stand ahead of one, from the front. -/
def placeF : List (List ValV) → List ValV → Nat
  | [], _ => 0
  | a :: l, r => if cmpR a r ≤ 0 then placeF l r + 1 else 0
def insF (l : List (List ValV)) (r : List ValV) : List (List ValV) := l.take (placeF l r) ++ r :: l.drop (placeF l r)
theorem insF_cons (a : List ValV) (l : List (List ValV)) (r : List ValV) : insF (a :: l) r = if cmpR a r ≤ 0 then a :: insF l r else r :: a :: l := by
  unfold insF
  simp only [placeF]
  by_cases h : cmpR a r ≤ 0
  · rw [if_pos h, if_pos h]; simp
  · rw [if_neg h, if_neg h]; simp
theorem insF_perm : ∀ (l : List (List ValV)) (r : List ValV), (insF l r).Perm (r :: l)
  | [], r => by simp [insF, placeF]
  | a :: l, r => by
    rw [insF_cons]
    split
    · exact ((insF_perm l r).cons a).trans (List.Perm.swap r a l)
    · exact List.Perm.refl _
theorem insF_rises : ∀ (l : List (List ValV)) (r : List ValV), Rises l → Rises (insF l r)
  | [], r, _ => by simp [insF, placeF, Rises]
  | a :: l, r, h => by
    have hp := List.pairwise_cons.1 h
    rw [insF_cons]
    split
    · rename_i hle
      refine List.pairwise_cons.2 ⟨fun b hb => ?_, insF_rises l r hp.2⟩
      rcases List.mem_cons.1 ((insF_perm l r).mem_iff.1 hb) with rfl | hb
      · exact hle
      · exact hp.1 b hb
    · rename_i hgt
      have hra : cmpR r a ≤ 0 := by have := cmpR_neg a r; omega
      refine List.pairwise_cons.2 ⟨fun b hb => ?_, h⟩
      rcases List.mem_cons.1 hb with rfl | hb
      · exact hra
      · exact cmpR_trans r a b hra (hp.1 b hb)
/-- The reference's Sorted. -/
def sortedF (l : List (List ValV)) : List (List ValV) := l.foldl insF []
theorem sorted_fold : ∀ (l acc : List (List ValV)), (l.foldl insF acc).Perm (acc ++ l) ∧ (Rises acc → Rises (l.foldl insF acc))
  | [], acc => by simp
  | a :: l, acc => by
    obtain ⟨h1, h2⟩ := sorted_fold l (insF acc a)
    refine ⟨?_, fun h => h2 (insF_rises acc a h)⟩
    refine h1.trans (((insF_perm acc a).append_right l).trans ?_)
    exact (List.perm_middle (l₁ := acc) (a := a) (l₂ := l)).symm
theorem sortedF_perm (l : List (List ValV)) : (sortedF l).Perm l := by simpa [sortedF] using (sorted_fold l []).1
theorem sortedF_rises (l : List (List ValV)) : Rises (sortedF l) := (sorted_fold l []).2 List.Pairwise.nil
/-- What rises and holds the same rows is the reference's. -/
theorem sorted_is {l s : List (List ValV)} (hp : s.Perm l) (hr : Rises s) : s = sortedF l := rises_unique s (sortedF l) (hp.trans (sortedF_perm l).symm) hr (sortedF_rises l)
theorem sorted_same {l m : List (List ValV)} : sortedF l = sortedF m ↔ l.Perm m :=
  ⟨fun h => ((sortedF_perm l).symm.trans (h ▸ List.Perm.refl _)).trans (sortedF_perm m), fun h => rises_unique _ _ (((sortedF_perm l).trans h).trans (sortedF_perm m).symm) (sortedF_rises l) (sortedF_rises m)⟩
/-- How often a row comes. -/
def timesF (l : List (List ValV)) (r : List ValV) : Nat := l.countP fun x => decide (cmpR x r = 0)
theorem times_perm {l m : List (List ValV)} (h : l.Perm m) (r : List ValV) : timesF l r = timesF m r := h.countP_eq _
theorem times_cons (a : List ValV) (l : List (List ValV)) (r : List ValV) : timesF (a :: l) r = timesF l r + if cmpR a r = 0 then 1 else 0 := by
  unfold timesF
  rw [List.countP_cons]
  by_cases h : cmpR a r = 0 <;> simp [h]
theorem perm_of_times : ∀ l m : List (List ValV), l.length = m.length → (∀ a ∈ l, timesF l a = timesF m a) → l.Perm m
  | [], m, h, _ => by
    obtain rfl : m = [] := List.eq_nil_of_length_eq_zero (by simpa using h.symm)
    exact List.Perm.refl _
  | a :: l, m, h, ht => by
    have h1 := ht a List.mem_cons_self
    rw [times_cons, if_pos (cmpR_refl a)] at h1
    have hpos : 0 < timesF m a := by omega
    obtain ⟨x, hx, hxa⟩ := List.countP_pos_iff.1 hpos
    obtain rfl := cmpR_zero.1 (of_decide_eq_true hxa)
    obtain ⟨s, t, rfl⟩ := List.append_of_mem hx
    have hp : (s ++ x :: t).Perm (x :: (s ++ t)) := List.perm_middle
    refine ((perm_of_times l (s ++ t) ?_ fun b hb => ?_).cons x).trans hp.symm
    · have := hp.length_eq
      simp at this h ⊢
      omega
    · have h2 := ht b (List.mem_cons_of_mem _ hb)
      rw [times_perm hp b, times_cons, times_cons] at h2
      omega
/-- Two lists are one bag just if each row of the one comes as often in both, and they are as long. -/
theorem bag_is {l m : List (List ValV)} : (l.length = m.length ∧ ∀ a ∈ l, timesF l a = timesF m a) ↔ sortedF l = sortedF m :=
  ⟨fun h => sorted_same.2 (perm_of_times l m h.1 h.2), fun h => ⟨(sorted_same.1 h).length_eq, fun a _ => times_perm (sorted_same.1 h) a⟩⟩
end Go.Proofs.Ytahdkfenpflahaa

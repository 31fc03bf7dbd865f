/- What the texts behind this one use: ValueA, ValM, ValC, ValR, ValRR, QuoteM, ValNum, ValNumY, ValNumY2, ValT, ValRT. -/
import Derived.Test.YtobepbpiagclnaaDoorRows
import Derived.Test.YtobepbpiagclnaaDoorValGa
import Derived.Lib.Bytealg
import Derived.Test.YtobepbpiagclnaaDoorShelf
import Derived.Lib.Replace
import Derived.Lib.LaidTab
import Derived.WalkSmall
import Derived.MakeChecks
import Derived.Deep.QuietTactic
import Derived.IntWalk
import Derived.Lib.ItoaLen
namespace Go.Proofs.YtobepbpiagclnaaDoor
set_option linter.unusedVariables false
open Go.ChangeShapes Go.WideShapes Go.ChangeAt Go.RowKit

def inN (n : Int) : Bool := decide (-1000000000000000 ≤ n) && decide (n ≤ 1000000000000000)
def okByte (c : UInt8) : Bool := decide (32 ≤ c.toNat) && decide (c.toNat ≤ 126)
def plainS (s : ByteArray) : Bool := decide (s.size ≤ 100) && s.data.toList.all okByte
def rightV (k n : Int) (s : ByteArray) : Bool :=
  if k = 0 then decide (n = 0) && s.toList.isEmpty
  else if k = 1 then (decide (n = 0) || decide (n = 1)) && s.toList.isEmpty
  else if k = 2 then inN n && s.toList.isEmpty
  else if k = 3 then decide (n = 0) && plainS s else false

theorem numIn_c (n : Int) (w : World) : Calls Tryd.prog 33 #[.int .i64 n] w fun e w' => e = .returned (.bool (inN n)) ∧ w = w' := by
  go_enter Tryd.func33, Tryd.ntmps33
  go_wp2
  all_goals (go_ret; refine ⟨ret_bool ?_, rfl⟩; unfold inN; rw [Bool.eq_iff_iff]; simp; try omega)
theorem str_take (s : ByteArray) (k : Nat) (h : k < s.size) : s.data.toList.take (k + 1) = s.data.toList.take k ++ [s[k]] := by
  rw [List.take_succ_eq_append_getElem (by simpa using h)]; rfl
theorem str_len (s : ByteArray) : s.data.toList.length = s.size := by rw [Array.length_toList]; rfl
theorem all_stop {s : ByteArray} {k : Nat} (h : k < s.size) (hk : okByte s[k] = false) : s.data.toList.all okByte = false := by
  rw [← List.take_append_drop (k + 1) s.data.toList, str_take s k h]
  simp [hk]
theorem all_go {s : ByteArray} {k : Nat} (h : k < s.size) (ha : (s.data.toList.take k).all okByte = true) (hk : okByte s[k] = true) : (s.data.toList.take (k + 1)).all okByte = true := by
  rw [str_take s k h, List.all_append, ha]; simp [hk]
theorem okByte_cases (c : UInt8) : (okByte c = true ∧ 32 ≤ (c.toNat : Int) ∧ (c.toNat : Int) ≤ 126) ∨ (okByte c = false ∧ (c.toNat : Int) < 32) ∨ (okByte c = false ∧ 32 ≤ (c.toNat : Int) ∧ 126 < (c.toNat : Int)) := by
  unfold okByte
  by_cases h1 : 32 ≤ c.toNat <;> by_cases h2 : c.toNat ≤ 126 <;> simp [h1, h2] <;> omega
theorem rightText_c (s : ByteArray) (w : World) (hm : s.size ≤ maxLen) : Calls Tryd.prog 34 #[.string s] w fun e w' => e = .returned (.bool (plainS s)) ∧ w = w' := by
  unfold maxLen at hm
  by_cases hl : s.size ≤ 100
  · go_enter Tryd.func34, Tryd.ntmps34
    go_wp2
    go_loop [3] (fun i => ∃ k : Nat, k ≤ s.size ∧ i = .int .i64 k ∧ Hid ((s.data.toList.take k).all okByte = true)) (fun i => s.size - (intOf i).toNat)
    case atStart => exact ⟨0, Nat.zero_le _, rfl, by show (s.data.toList.take 0).all okByte = true; simp⟩
    case round =>
      obtain ⟨k, hk, rfl, HR⟩ := hrel
      by_cases hlt : k < s.size
      · rcases okByte_cases s[k] with ⟨h1, h2, h3⟩ | ⟨h1, h2⟩ | ⟨h1, h2, h3⟩
        · have H1 := hide h1
          clear h1
          go_wp2
          go_round
          case rel => exact ⟨k + 1, by omega, by go_num, all_go hlt HR.out H1.out⟩
          case measure => simp [intOf]; omega
        all_goals
          have H1 := hide h1
          clear h1
          go_wp2
          go_ret
          refine ⟨ret_bool ?_, rfl⟩
          unfold plainS
          rw [all_stop hlt H1.out]; simp
      · go_wp2
        go_ret
        refine ⟨ret_bool ?_, rfl⟩
        have h := HR.out
        rw [List.take_of_length_le (by rw [str_len]; omega)] at h
        unfold plainS
        rw [h]; simp [hl]
  · go_enter Tryd.func34, Tryd.ntmps34
    go_wp2
    go_ret
    refine ⟨ret_bool ?_, rfl⟩
    unfold plainS
    simp; omega
theorem right_cases (k n : Int) (s : ByteArray) : (k = 0 ∧ rightV k n s = (decide (n = 0) && s.toList.isEmpty)) ∨ (k = 1 ∧ rightV k n s = ((decide (n = 0) || decide (n = 1)) && s.toList.isEmpty)) ∨
    (k = 2 ∧ rightV k n s = (inN n && s.toList.isEmpty)) ∨ (k = 3 ∧ rightV k n s = (decide (n = 0) && plainS s)) ∨ ((k == 0) = false ∧ (k == 1) = false ∧ (k == 2) = false ∧ (k == 3) = false ∧ rightV k n s = false) := by
  unfold rightV
  by_cases h0 : k = 0
  · simp [h0]
  · by_cases h1 : k = 1
    · simp [h1]
    · by_cases h2 : k = 2
      · simp [h2]
      · by_cases h3 : k = 3
        · simp [h3]
        · simp [h0, h1, h2, h3]
theorem right_c (k n : Int) (s : ByteArray) (w : World) (hm : s.size ≤ maxLen) : Calls Tryd.prog 20 #[.agg #[.int .i64 k, .int .i64 n, .string s]] w fun e w' => e = .returned (.bool (rightV k n s)) ∧ Below w.heap.size w w' := by
  have hc := right_cases k n s
  generalize rightV k n s = b at *
  rcases hc with ⟨rfl, h⟩ | ⟨rfl, h⟩ | ⟨rfl, h⟩ | ⟨rfl, h⟩ | ⟨h0, h1, h2, h3, rfl⟩
  all_goals try (have HB := hide h; clear h)
  all_goals
    go_enter Tryd.func20, Tryd.ntmps20
    go_wp2_with (first | (go_at_call 33; refine (numIn_c _ _).mono ?_; rintro e w' ⟨rfl, rfl⟩) | (go_at_call 34; refine (rightText_c _ _ hm).mono ?_; rintro e w' ⟨rfl, rfl⟩))
    all_goals (go_ret; refine ⟨ret_bool ?_, Bel.one _ _⟩)
    all_goals first | rfl | (rw [HB.out]; simp [*]; done)
end Go.Proofs.YtobepbpiagclnaaDoor
namespace Go.Proofs.YtobepbpiagclnaaDoor
set_option linter.unusedVariables false
open Go.ChangeShapes Go.WideShapes Go.ChangeAt Go.RowKit

def cmpI (a b : Int) : Int := if a < b then -1 else if b < a then 1 else 0
def cmpT (s t : ByteArray) : Int := Lib.compareBytes s.data.toList t.data.toList
/-- A value. -/
structure ValV where
  kind : Int
  num : Int
  str : ByteArray
def valCells (v : ValV) : List Value := [.int .i64 v.kind, .int .i64 v.num, .string v.str]
def valAgg (v : ValV) : Value := .agg #[.int .i64 v.kind, .int .i64 v.num, .string v.str]
def cmpV (a b : ValV) : Int := if cmpI a.kind b.kind = 0 then (if cmpI a.num b.num = 0 then cmpT a.str b.str else cmpI a.num b.num) else cmpI a.kind b.kind
/-- What Compare gives. -/
def compV (a b : ValV) : Int × Bool := if a.kind = b.kind then (if a.kind = 1 ∨ a.kind = 2 then (cmpI a.num b.num, true) else if a.kind = 3 then (cmpT a.str b.str, true) else (0, false)) else (0, false)
def cmpR : List ValV → List ValV → Int
  | [], [] => 0
  | [], _ :: _ => -1
  | _ :: _, [] => 1
  | a :: l, b :: m => if cmpV a b = 0 then cmpR l m else cmpV a b

theorem cmpI_zero {a b : Int} : cmpI a b = 0 ↔ a = b := by unfold cmpI; split <;> (try split) <;> omega
theorem cmpI_neg (a b : Int) : cmpI b a = -cmpI a b := by unfold cmpI; split <;> (try split) <;> (try split) <;> omega
theorem cmpI_range (a b : Int) : -1 ≤ cmpI a b ∧ cmpI a b ≤ 1 := by unfold cmpI; split <;> (try split) <;> omega
theorem cb_range : ∀ l m : List UInt8, -1 ≤ Lib.compareBytes l m ∧ Lib.compareBytes l m ≤ 1
  | [], [] => by decide
  | [], _ :: _ => by simp [Lib.compareBytes]
  | _ :: _, [] => by simp [Lib.compareBytes]
  | a :: l, b :: m => by
    simp only [Lib.compareBytes]
    have := cb_range l m
    split
    · omega
    · split
      · omega
      · exact this
theorem cb_zero : ∀ {l m : List UInt8}, Lib.compareBytes l m = 0 ↔ l = m
  | [], [] => by simp [Lib.compareBytes]
  | [], _ :: _ => by simp [Lib.compareBytes]
  | _ :: _, [] => by simp [Lib.compareBytes]
  | a :: l, b :: m => by
    simp only [Lib.compareBytes, List.cons.injEq]
    by_cases h1 : a < b
    · simp [h1, UInt8.ne_of_lt h1]
    · by_cases h2 : b < a
      · simp [h1, h2, (UInt8.ne_of_lt h2).symm]
      · have : a = b := UInt8.le_antisymm (UInt8.not_lt.1 h2) (UInt8.not_lt.1 h1)
        subst this
        simp [cb_zero (l := l) (m := m)]
theorem cb_neg : ∀ l m : List UInt8, Lib.compareBytes m l = -Lib.compareBytes l m
  | [], [] => by decide
  | [], _ :: _ => by simp [Lib.compareBytes]
  | _ :: _, [] => by simp [Lib.compareBytes]
  | a :: l, b :: m => by
    simp only [Lib.compareBytes]
    by_cases h1 : a < b
    · simp [h1, UInt8.not_lt.2 (UInt8.le_of_lt h1)]
    · by_cases h2 : b < a
      · simp [h1, h2]
      · simp [h1, h2, cb_neg l m]
/-- Up to level, and on: the order goes on. -/
theorem cb_trans : ∀ l m k : List UInt8, Lib.compareBytes l m ≤ 0 → Lib.compareBytes m k ≤ 0 → Lib.compareBytes l k ≤ 0
  | [], m, [], _, _ => by simp [Lib.compareBytes]
  | [], m, _ :: _, _, _ => by simp [Lib.compareBytes]
  | a :: l, [], k, h, _ => by simp [Lib.compareBytes] at h
  | a :: l, b :: m, [], _, h => by simp [Lib.compareBytes] at h
  | a :: l, b :: m, c :: k, h, g => by
    simp only [Lib.compareBytes] at h g ⊢
    by_cases h1 : a < b
    · by_cases g1 : b < c
      · simp [UInt8.lt_trans h1 g1]
      · by_cases g2 : c < b
        · simp [g1, g2] at g
        · have : b = c := UInt8.le_antisymm (UInt8.not_lt.1 g2) (UInt8.not_lt.1 g1)
          subst this
          simp [h1]
    · by_cases h2 : b < a
      · simp [h1, h2] at h
      · have : a = b := UInt8.le_antisymm (UInt8.not_lt.1 h2) (UInt8.not_lt.1 h1)
        subst this
        by_cases g1 : a < c
        · simp [g1]
        · by_cases g2 : c < a
          · simp [g1, g2] at g
          · have : a = c := UInt8.le_antisymm (UInt8.not_lt.1 g2) (UInt8.not_lt.1 g1)
            subst this
            simp at h g ⊢
            exact cb_trans l m k h g
theorem cmpT_zero {s t : ByteArray} : cmpT s t = 0 ↔ s = t := by
  unfold cmpT
  rw [cb_zero]
  exact ⟨fun h => ByteArray.ext (Array.ext' h), fun h => by rw [h]⟩
theorem cmpV_zero {a b : ValV} : cmpV a b = 0 ↔ a = b := by
  obtain ⟨k, n, s⟩ := a
  obtain ⟨k2, n2, s2⟩ := b
  unfold cmpV
  simp only [ValV.mk.injEq]
  by_cases h1 : cmpI k k2 = 0
  · rw [if_pos h1]
    by_cases h2 : cmpI n n2 = 0
    · rw [if_pos h2, cmpT_zero, cmpI_zero.1 h1, cmpI_zero.1 h2]; simp
    · rw [if_neg h2]
      exact ⟨fun h => absurd h h2, fun h => absurd (cmpI_zero.2 h.2.1) h2⟩
  · rw [if_neg h1]
    exact ⟨fun h => absurd h h1, fun h => absurd (cmpI_zero.2 h.1) h1⟩
theorem cmpV_neg (a b : ValV) : cmpV b a = -cmpV a b := by
  unfold cmpV
  have h1 := cmpI_neg a.kind b.kind
  have h2 := cmpI_neg a.num b.num
  have h3 : cmpT b.str a.str = -cmpT a.str b.str := cb_neg _ _
  by_cases e1 : cmpI a.kind b.kind = 0
  · by_cases e2 : cmpI a.num b.num = 0
    · rw [if_pos e1, if_pos (by omega), if_pos e2, if_pos (by omega), h3]
    · rw [if_pos e1, if_pos (by omega), if_neg e2, if_neg (by omega), h2]
  · rw [if_neg e1, if_neg (by omega), h1]
theorem cmpV_range (a b : ValV) : -1 ≤ cmpV a b ∧ cmpV a b ≤ 1 := by
  have h1 := cmpI_range a.kind b.kind
  have h2 := cmpI_range a.num b.num
  have h3 := cb_range a.str.data.toList b.str.data.toList
  unfold cmpV cmpT
  split
  · split <;> omega
  · omega
def lexI (f g : Int) : Int := if f = 0 then g else f
theorem lex_trans {f1 f2 f3 g1 g2 g3 : Int} (h1 : f1 ≤ 0 → f2 ≤ 0 → f3 ≤ 0) (h2 : f1 ≤ 0 → f2 ≤ 0 → f3 = 0 → f1 = 0 ∧ f2 = 0) (h3 : g1 ≤ 0 → g2 ≤ 0 → g3 ≤ 0) (a : lexI f1 g1 ≤ 0) (b : lexI f2 g2 ≤ 0) : lexI f3 g3 ≤ 0 := by
  unfold lexI at *
  split at a <;> split at b <;> split <;> omega
theorem cmpI_trans (a b c : Int) : (cmpI a b ≤ 0 → cmpI b c ≤ 0 → cmpI a c ≤ 0) ∧ (cmpI a b ≤ 0 → cmpI b c ≤ 0 → cmpI a c = 0 → cmpI a b = 0 ∧ cmpI b c = 0) := by
  unfold cmpI
  rcases Int.lt_trichotomy a b with h | h | h <;> rcases Int.lt_trichotomy b c with g | g | g <;> rcases Int.lt_trichotomy a c with k | k | k <;> (try omega) <;>
    simp [h, g, k, Int.lt_irrefl] <;> omega
theorem cmpV_lex (a b : ValV) : cmpV a b = lexI (cmpI a.kind b.kind) (lexI (cmpI a.num b.num) (cmpT a.str b.str)) := rfl
theorem cmpV_trans (a b c : ValV) (h : cmpV a b ≤ 0) (g : cmpV b c ≤ 0) : cmpV a c ≤ 0 := by
  rw [cmpV_lex] at *
  have t1 := cmpI_trans a.kind b.kind c.kind
  have t2 := cmpI_trans a.num b.num c.num
  exact lex_trans t1.1 t1.2 (lex_trans t2.1 t2.2 (cb_trans _ _ _)) h g
/-- Level up to there: the order of three. -/
theorem cmpV_level (a b c : ValV) (h : cmpV a b ≤ 0) (g : cmpV b c ≤ 0) (e : cmpV a c = 0) : cmpV a b = 0 ∧ cmpV b c = 0 := by
  obtain rfl := cmpV_zero.1 e
  have := cmpV_neg a b
  omega
end Go.Proofs.YtobepbpiagclnaaDoor
namespace Go.Proofs.YtobepbpiagclnaaDoor
set_option linter.unusedVariables false
open Go.ChangeShapes Go.WideShapes Go.ChangeAt Go.RowKit

/-- A pure call in a second region that draws. -/
theorem quiet_l2 {P : Program} {f : FuncId} {args : Array Value} {w : World} {a n : Nat} {v : Value} (h : Calls P f args (w.drewN (a + n)) fun e w' => e = .returned v ∧ w.drewN (a + n) = w') :
    Calls P f args (w.drewN (a + n)) fun e w'' => e = .returned v ∧ ∃ m, w'' = w.drewN (a + m) := h.mono fun _ _ ⟨he, hm⟩ => ⟨he, n, hm.symm⟩
theorem nan_c (a : Int) (w : World) : Calls Tryd.prog 40 #[.int .i64 a] w fun e w' => e = .returned (.bool false) ∧ w = w' := by
  have h : (a != a) = false := by simp
  go_enter Tryd.func40, Tryd.ntmps40
  go_wp2
  go_ret
  exact ⟨rfl, rfl⟩
theorem cmp_c (a b : Int) (w : World) : Calls Tryd.prog 29 #[.int .i64 a, .int .i64 b] w fun e w' => e = .returned (.int .i64 (cmpI a b)) ∧ w = w' := by
  unfold cmpI
  rcases Int.lt_trichotomy a b with h | h | h
  · rw [if_pos h]
    go_enter Tryd.func29, Tryd.ntmps29
    go_wp2_with (go_at_call 40; refine (nan_c _ _).mono ?_; rintro e w' ⟨rfl, rfl⟩)
    go_ret
    exact ⟨rfl, rfl⟩
  · subst h
    rw [if_neg (by omega), if_neg (by omega)]
    go_enter Tryd.func29, Tryd.ntmps29
    go_wp2_with (go_at_call 40; refine (nan_c _ _).mono ?_; rintro e w' ⟨rfl, rfl⟩)
    go_ret
    exact ⟨rfl, rfl⟩
  · rw [if_neg (by omega), if_pos h]
    have h2 : b ≤ a := by omega
    go_enter Tryd.func29, Tryd.ntmps29
    go_wp2_with (go_at_call 40; refine (nan_c _ _).mono ?_; rintro e w' ⟨rfl, rfl⟩)
    go_ret
    exact ⟨rfl, rfl⟩
theorem ints_c (a b : Int) (w : World) : Calls Tryd.prog 36 #[.int .i64 a, .int .i64 b] w fun e w' => e = .returned (.int .i64 (cmpI a b)) ∧ w = w' := by
  unfold cmpI
  rcases Int.lt_trichotomy a b with h | h | h
  · rw [if_pos h]
    go_enter Tryd.func36, Tryd.ntmps36
    go_wp2
    go_ret
    exact ⟨rfl, rfl⟩
  · subst h
    rw [if_neg (by omega), if_neg (by omega)]
    go_enter Tryd.func36, Tryd.ntmps36
    go_wp2
    go_ret
    exact ⟨rfl, rfl⟩
  · rw [if_neg (by omega), if_pos h]
    have h2 : b ≤ a := by omega
    go_enter Tryd.func36, Tryd.ntmps36
    go_wp2
    go_ret
    exact ⟨rfl, rfl⟩
theorem scmp_c (a b : ByteArray) (w : World) : Calls Tryd.prog 30 #[.string a, .string b] w fun e w' => e = .returned (.int .i64 (cmpT a b)) ∧ w = w' :=
  (Tryd.strings_Compare a b w).mono fun e w' ⟨h1, h2⟩ => ⟨h1, h2.symm⟩
theorem cb_at (s t : ByteArray) (k : Nat) (h1 : k < s.size) (h2 : k < t.size) : Lib.compareBytes (s.data.toList.drop k) (t.data.toList.drop k) = if s[k] = t[k] then Lib.compareBytes (s.data.toList.drop (k + 1)) (t.data.toList.drop (k + 1)) else cmpI s[k].toNat t[k].toNat := by
  have e1 : s.data.toList.drop k = s[k] :: s.data.toList.drop (k + 1) := List.drop_eq_getElem_cons (by rw [str_len]; exact h1)
  have e2 : t.data.toList.drop k = t[k] :: t.data.toList.drop (k + 1) := List.drop_eq_getElem_cons (by rw [str_len]; exact h2)
  rw [e1, e2]
  simp only [Lib.compareBytes]
  generalize s[k] = a
  generalize t[k] = b
  by_cases g1 : a < b
  · have := UInt8.lt_iff_toNat_lt.1 g1
    rw [if_pos g1, if_neg (UInt8.ne_of_lt g1)]
    unfold cmpI
    rw [if_pos (by omega)]
  · by_cases g2 : b < a
    · have := UInt8.lt_iff_toNat_lt.1 g2
      rw [if_neg g1, if_pos g2, if_neg (UInt8.ne_of_lt g2).symm]
      unfold cmpI
      rw [if_neg (by omega), if_pos (by omega)]
    · rw [if_neg g1, if_neg g2, if_pos (UInt8.le_antisymm (UInt8.not_lt.1 g2) (UInt8.not_lt.1 g1))]
theorem cb_end (s t : ByteArray) (k : Nat) (h1 : k ≤ s.size) (h2 : k ≤ t.size) (h : k = s.size ∨ k = t.size) : Lib.compareBytes (s.data.toList.drop k) (t.data.toList.drop k) = cmpI s.size t.size := by
  have l1 := str_len s
  have l2 := str_len t
  by_cases a : k = s.size
  · rw [List.drop_of_length_le (l := s.data.toList) (by omega)]
    by_cases b : k = t.size
    · rw [List.drop_of_length_le (by omega), cmpI_zero.2 (by omega)]; rfl
    · rw [List.drop_eq_getElem_cons (l := t.data.toList) (by omega)]
      unfold cmpI
      rw [if_pos (by omega)]
      rfl
  · rw [List.drop_of_length_le (l := t.data.toList) (by omega), List.drop_eq_getElem_cons (l := s.data.toList) (by omega)]
    unfold cmpI
    rw [if_neg (by omega), if_pos (by omega)]
    rfl
set_option maxHeartbeats 1000000 in
theorem texts_c (s t : ByteArray) (w : World) (hs : s.size ≤ 9223372036854775807) (ht : t.size ≤ 9223372036854775807) : Calls Tryd.prog 44 #[.string s, .string t] w fun e w' => e = .returned (.int .i64 (cmpT s t)) ∧ ∃ n, w' = w.drewN n := by
  go_enter Tryd.func44, Tryd.ntmps44
  go_wp2
  go_loopw [5] (fun i wr => ∃ k m : Nat, k ≤ s.size ∧ k ≤ t.size ∧ i = .int .i64 k ∧ wr = w.drewN m ∧ Hid (Lib.compareBytes (s.data.toList.drop k) (t.data.toList.drop k) = cmpT s t)) (fun i _ => s.size - (intOf i).toNat)
  case atStart => exact ⟨0, 0, Nat.zero_le _, Nat.zero_le _, rfl, rfl, rfl⟩
  case round =>
    obtain ⟨k, m, hk, hk2, rfl, rfl, HR⟩ := hrel
    by_cases hgo : k < s.size ∧ k < t.size
    · obtain ⟨h1, h2⟩ := hgo
      have hst := HR.out.symm.trans (cb_at s t k h1 h2)
      by_cases he : s[k] = t[k]
      · rw [if_pos he] at hst
        have HS := hide hst
        have hb : ((s[k].toNat : Int) != (t[k].toNat : Int)) = false := by simp [he]
        clear hst he
        go_wp2_with fail
        go_quiet (fail)
        go_wp2_with fail
        go_roundw
        case rel => exact ⟨k + 1, _, by omega, by omega, by go_num, rfl, HS.out.symm⟩
        case measure => simp [intOf]; omega
      · rw [if_neg he] at hst
        have hb : ((s[k].toNat : Int) != (t[k].toNat : Int)) = true := by
          have : s[k].toNat ≠ t[k].toNat := fun e => he (UInt8.toNat_inj.1 e)
          simp; omega
        have HS := hide hst
        have b1 := s[k].toNat_lt
        have b2 := t[k].toNat_lt
        have w1 : IntKind.i64.wrap (s[k].toNat : Int) = s[k].toNat := IntWalk.i64_in _ (by omega)
        have w2 : IntKind.i64.wrap (t[k].toNat : Int) = t[k].toNat := IntWalk.i64_in _ (by omega)
        clear hst he
        go_wp2_with fail
        go_quiet (fail)
        go_wp2_with fail
        go_quiet ((go_at_call 36; exact quiet_l2 (ints_c _ _ _)))
        go_wp2_with fail
        go_ret
        refine ⟨ret_int HS.out.symm, ?_⟩
        simp only [World.drewN_drewN]
        exact ⟨_, rfl⟩
    · have hst := HR.out.symm.trans (cb_end s t k hk hk2 (by omega))
      have HS := hide hst
      clear hst
      rcases (show ¬ k < s.size ∨ (k < s.size ∧ ¬ k < t.size) by omega) with h1 | ⟨h1, h2⟩
      all_goals
        clear hgo
        go_wp2_with (go_at_call 36; refine (ints_c _ _ _).mono ?_; rintro e w' ⟨rfl, rfl⟩)
        go_ret
        exact ⟨ret_int HS.out.symm, _, rfl⟩
theorem compare_c (a b : ValV) (w : World) : Calls Tryd.prog 16 #[valAgg a, valAgg b] w fun e w' => e = .returned (.tuple #[.int .i64 (compV a b).1, .bool (compV a b).2]) ∧ Below w.heap.size w w' := by
  obtain ⟨k, n, s⟩ := a
  obtain ⟨k2, n2, s2⟩ := b
  unfold valAgg
  simp only
  have hB := ((Below.refl w.heap.size w).alloc (Nat.le_refl _) (.cells #[.int .i64 k, .int .i64 n, .string s] 33)).alloc (by simp) (.cells #[.int .i64 k2, .int .i64 n2, .string s2] 33)
  have HB := hide hB
  clear hB
  by_cases h : k = k2
  · subst h
    have hc : compV ⟨k, n, s⟩ ⟨k, n2, s2⟩ = (if k = 1 ∨ k = 2 then (cmpI n n2, true) else if k = 3 then (cmpT s s2, true) else (0, false)) := by unfold compV; rw [if_pos rfl]
    rw [hc]
    clear hc
    rcases (show k = 1 ∨ k = 2 ∨ k = 3 ∨ (¬ k = 1 ∧ ¬ k = 2 ∧ ¬ k = 3) by omega) with rfl | rfl | rfl | ⟨g1, g2, g3⟩
    · rw [if_pos (.inl rfl)]
      go_enter Tryd.func16, Tryd.ntmps16
      go_wp2_with (go_at_call 29; refine (cmp_c _ _ _).mono ?_; rintro e w' ⟨rfl, rfl⟩)
      go_ret2
      exact ⟨rfl, HB.out⟩
    · rw [if_pos (.inr rfl)]
      go_enter Tryd.func16, Tryd.ntmps16
      go_wp2_with (go_at_call 29; refine (cmp_c _ _ _).mono ?_; rintro e w' ⟨rfl, rfl⟩)
      go_ret2
      exact ⟨rfl, HB.out⟩
    · rw [if_neg (by omega), if_pos rfl]
      go_enter Tryd.func16, Tryd.ntmps16
      go_wp2_with (go_at_call 30; refine (scmp_c _ _ _).mono ?_; rintro e w' ⟨rfl, rfl⟩)
      go_ret2
      exact ⟨rfl, HB.out⟩
    · rw [if_neg (by omega), if_neg g3]
      have f1 : (k == 1) = false := by simp [g1]
      have f2 : (k == 2) = false := by simp [g2]
      have f3 : (k == 3) = false := by simp [g3]
      clear g1 g2 g3
      go_enter Tryd.func16, Tryd.ntmps16
      go_wp2
      go_ret2
      exact ⟨rfl, HB.out⟩
  · have hc : compV ⟨k, n, s⟩ ⟨k2, n2, s2⟩ = (0, false) := by unfold compV; rw [if_neg h]
    rw [hc]
    have f1 : (k != k2) = true := by simp [h]
    clear hc h
    go_enter Tryd.func16, Tryd.ntmps16
    go_wp2
    go_ret2
    exact ⟨rfl, HB.out⟩
theorem order_c (a b : ValV) (w : World) : Calls Tryd.prog 15 #[valAgg a, valAgg b] w fun e w' => e = .returned (.int .i64 (cmpV a b)) ∧ Below w.heap.size w w' := by
  obtain ⟨k, n, s⟩ := a
  obtain ⟨k2, n2, s2⟩ := b
  unfold valAgg cmpV
  simp only
  have hB := ((Below.refl w.heap.size w).alloc (Nat.le_refl _) (.cells #[.int .i64 k, .int .i64 n, .string s] 33)).alloc (by simp) (.cells #[.int .i64 k2, .int .i64 n2, .string s2] 33)
  have HB := hide hB
  clear hB
  have q1 := fun W => cmp_c k k2 W
  have q2 := fun W => cmp_c n n2 W
  generalize cmpI k k2 = c1 at *
  generalize cmpI n n2 = c2 at *
  have Q1 := hide q1
  have Q2 := hide q2
  clear q1 q2
  by_cases h1 : c1 = 0
  · subst h1
    rw [if_pos rfl]
    by_cases h2 : c2 = 0
    · subst h2
      rw [if_pos rfl]
      go_enter Tryd.func15, Tryd.ntmps15
      go_wp2_with fail
      refine (Q1.out _).mono ?_
      rintro e w' ⟨rfl, rfl⟩
      go_wp2_with fail
      refine (Q2.out _).mono ?_
      rintro e w' ⟨rfl, rfl⟩
      go_wp2_with (go_at_call 30; refine (scmp_c _ _ _).mono ?_; rintro e w' ⟨rfl, rfl⟩)
      go_ret
      exact ⟨rfl, HB.out⟩
    · rw [if_neg h2]
      have f2 : (c2 != 0) = true := by simp [h2]
      clear h2
      go_enter Tryd.func15, Tryd.ntmps15
      go_wp2_with fail
      refine (Q1.out _).mono ?_
      rintro e w' ⟨rfl, rfl⟩
      go_wp2_with fail
      refine (Q2.out _).mono ?_
      rintro e w' ⟨rfl, rfl⟩
      go_wp2
      go_ret
      exact ⟨rfl, HB.out⟩
  · rw [if_neg h1]
    have f1 : (c1 != 0) = true := by simp [h1]
    clear h1
    go_enter Tryd.func15, Tryd.ntmps15
    go_wp2_with fail
    refine (Q1.out _).mono ?_
    rintro e w' ⟨rfl, rfl⟩
    go_wp2
    go_ret
    exact ⟨rfl, HB.out⟩
theorem rorder_c (a b : ValV) (w : World) (ha : a.str.size ≤ 9223372036854775807) (hb : b.str.size ≤ 9223372036854775807) : Calls Tryd.prog 35 #[valAgg a, valAgg b] w fun e w' => e = .returned (.int .i64 (cmpV a b)) ∧ Below w.heap.size w w' := by
  obtain ⟨k, n, s⟩ := a
  obtain ⟨k2, n2, s2⟩ := b
  unfold valAgg cmpV
  simp only at *
  have hB := ((Below.refl w.heap.size w).alloc (Nat.le_refl _) (.cells #[.int .i64 k, .int .i64 n, .string s] 33)).alloc (by simp) (.cells #[.int .i64 k2, .int .i64 n2, .string s2] 33)
  have HB := hide hB
  clear hB
  by_cases h1 : k = k2
  · subst h1
    rw [if_pos (cmpI_zero.2 rfl)]
    by_cases h2 : n = n2
    · subst h2
      rw [if_pos (cmpI_zero.2 rfl)]
      go_enter Tryd.func35, Tryd.ntmps35
      go_wp2_with (go_at_call 44; refine (texts_c _ _ _ ha hb).mono ?_; rintro e w' ⟨rfl, nq, rfl⟩)
      go_ret
      exact ⟨rfl, Bel.drewN HB.out _⟩
    · rw [if_neg (fun e => h2 (cmpI_zero.1 e))]
      have f2 : (n != n2) = true := by simp [h2]
      clear h2
      go_enter Tryd.func35, Tryd.ntmps35
      go_wp2_with (go_at_call 36; refine (ints_c _ _ _).mono ?_; rintro e w' ⟨rfl, rfl⟩)
      go_ret
      exact ⟨rfl, HB.out⟩
  · rw [if_neg (fun e => h1 (cmpI_zero.1 e))]
    have f1 : (k != k2) = true := by simp [h1]
    clear h1
    go_enter Tryd.func35, Tryd.ntmps35
    go_wp2_with (go_at_call 36; refine (ints_c _ _ _).mono ?_; rintro e w' ⟨rfl, rfl⟩)
    go_ret
    exact ⟨rfl, HB.out⟩
end Go.Proofs.YtobepbpiagclnaaDoor
namespace Go.Proofs.YtobepbpiagclnaaDoor
set_option linter.unusedVariables false
open Go.ChangeShapes Go.WideShapes Go.ChangeAt Go.RowKit

abbrev RowAt := SlAt valCells 3
theorem RowAt.val {w : World} {B n c : Nat} {A : Option Addr} {r : List ValV} (h : RowAt w B A n c r) {i : Nat} (hi : i < n) :
    ∃ b off v, A = some ⟨b, off, none⟩ ∧ b < B ∧ r[i]? = some v ∧ w.cell? ⟨b, off + i * 3, none⟩ = some (.int .i64 v.kind) ∧ w.cell? ⟨b, off + i * 3 + 1, none⟩ = some (.int .i64 v.num) ∧ w.cell? ⟨b, off + i * 3 + 2, none⟩ = some (.string v.str) := by
  obtain ⟨b, off, v, e, hb, hv, hc⟩ := h.at (by omega) hi
  exact ⟨b, off, v, e, hb, hv, hc 0 _ rfl, hc 1 _ rfl, hc 2 _ rfl⟩
theorem cmpR_at {r s : List ValV} {k : Nat} {a b : ValV} (h1 : r[k]? = some a) (h2 : s[k]? = some b) : cmpR (r.drop k) (s.drop k) = if cmpV a b = 0 then cmpR (r.drop (k + 1)) (s.drop (k + 1)) else cmpV a b := by
  rw [drop_at h1, drop_at h2]
  rfl
theorem cmpR_end {r s : List ValV} {k : Nat} (h1 : k ≤ r.length) (h2 : k ≤ s.length) (h : k = r.length ∨ k = s.length) : cmpR (r.drop k) (s.drop k) = cmpI r.length s.length := by
  by_cases a : k = r.length
  · rw [List.drop_of_length_le (l := r) (by omega)]
    by_cases b : k = s.length
    · rw [List.drop_of_length_le (by omega), cmpI_zero.2 (by omega)]; rfl
    · rw [List.drop_eq_getElem_cons (l := s) (by omega)]
      unfold cmpI
      rw [if_pos (by omega)]
      rfl
  · rw [List.drop_of_length_le (l := s) (by omega), List.drop_eq_getElem_cons (l := r) (by omega)]
    unfold cmpI
    rw [if_neg (by omega), if_pos (by omega)]
    rfl
set_option maxHeartbeats 1000000 in
theorem cmpFunc_c (A A2 : Option Addr) (n c n2 c2 : Nat) (r s : List ValV) (w : World) (h : RowAt w w.heap.size A n c r) (h2 : RowAt w w.heap.size A2 n2 c2 s) :
    Calls Tryd.prog 14 #[.slice A n c, .slice A2 n2 c2, .func (.func 15) #[] #[]] w fun e w' => e = .returned (.int .i64 (cmpR r s)) ∧ Below w.heap.size w w' := by
  have l1 := h.len
  have l2 := h2.len
  have m1 := h.cap
  have m2 := h.max
  have m3 := h2.cap
  have m4 := h2.max
  unfold maxLen at m2 m4
  have H := hide h
  have H2 := hide h2
  clear h h2
  go_enter Tryd.func14, Tryd.ntmps14
  go_wp2
  go_loopw [13] (fun i wr => ∃ k : Nat, k ≤ n ∧ k ≤ n2 ∧ i = .int .i64 k ∧ Hid (Below w.heap.size w wr) ∧ Hid (cmpR (r.drop k) (s.drop k) = cmpR r s)) (fun i _ => n - (intOf i).toNat)
  case atStart => exact ⟨0, Nat.zero_le _, Nat.zero_le _, rfl, Below.refl _ _, rfl⟩
  case round =>
    obtain ⟨k, hk, hk2, rfl, HB, HR⟩ := hrel
    by_cases h1 : k < n
    · obtain ⟨b, off, v, rfl, hb, hv, hc0, hc1, hc2⟩ := RowAt.val (H.out.below HB.out) h1
      by_cases h2 : k < n2
      · obtain ⟨b2, off2, v2, rfl, hb2, hv2, hd0, hd1, hd2⟩ := RowAt.val (H2.out.below HB.out) h2
        have hst := HR.out.symm.trans (cmpR_at hv hv2)
        have q := fun W => order_c v v2 W
        unfold valAgg at q
        obtain ⟨vk, vn, vs⟩ := v
        obtain ⟨vk2, vn2, vs2⟩ := v2
        simp only at q hc0 hc1 hc2 hd0 hd1 hd2
        generalize cmpV ⟨vk, vn, vs⟩ ⟨vk2, vn2, vs2⟩ = x at *
        have HS := hide hst
        have Q := hide q
        clear hst q hv hv2
        have e0 := World.cell?_alloc_some wr ⟨b2, off2 + k * 3, none⟩ (.cells #[.int .i64 vk, .int .i64 vn, .string vs] 33) (by simp [hd0])
        have e1 := World.cell?_alloc_some wr ⟨b2, off2 + k * 3 + 1, none⟩ (.cells #[.int .i64 vk, .int .i64 vn, .string vs] 33) (by simp [hd1])
        have e2 := World.cell?_alloc_some wr ⟨b2, off2 + k * 3 + 2, none⟩ (.cells #[.int .i64 vk, .int .i64 vn, .string vs] 33) (by simp [hd2])
        by_cases hx : x = 0
        · have HX : Hid (cmpR r s = cmpR (r.drop (k + 1)) (s.drop (k + 1))) := HS.out.trans (if_pos hx)
          subst hx
          go_wp2_with fail
          refine (Q.out _).mono ?_
          rintro e w1 ⟨rfl, hb⟩
          have HB1 := hide (HB.out.trans ((((Below.refl wr.heap.size wr).alloc (Nat.le_refl _) _).alloc (by simp) _ |>.trans (hb.mono (by simp; omega))).mono HB.out.size))
          clear hb
          go_wp2_with fail
          go_roundw
          case rel => exact ⟨k + 1, by omega, by omega, by go_num, HB1, HX.out.symm⟩
          case measure => simp [intOf]; omega
        · have HX : Hid (cmpR r s = x) := HS.out.trans (if_neg hx)
          have f1 : (x != 0) = true := by simp [hx]
          clear hx
          go_wp2_with fail
          refine (Q.out _).mono ?_
          rintro e w1 ⟨rfl, hb⟩
          have HB1 := hide (HB.out.trans ((((Below.refl wr.heap.size wr).alloc (Nat.le_refl _) _).alloc (by simp) _ |>.trans (hb.mono (by simp; omega))).mono HB.out.size))
          clear hb
          go_wp2_with fail
          go_ret
          exact ⟨ret_int HX.out.symm, HB1.out⟩
      · have hst := HR.out.symm.trans (cmpR_end (by omega) (by omega) (.inr (by omega)))
        have hx : cmpI r.length s.length = 1 := by unfold cmpI; rw [if_neg (by omega), if_pos (by omega)]
        rw [hx] at hst
        have HS := hide hst
        clear hst hx hv
        go_wp2_with fail
        go_ret
        exact ⟨ret_int HS.out.symm, HB.out.alloc HB.out.size _⟩
    · have hst := HR.out.symm.trans (cmpR_end (by omega) (by omega) (.inl (by omega)))
      by_cases h2 : n < n2
      · have hx : cmpI r.length s.length = -1 := by unfold cmpI; rw [if_pos (by omega)]
        rw [hx] at hst
        have HS := hide hst
        clear hst hx
        go_wp2_with fail
        go_ret
        exact ⟨ret_int HS.out.symm, HB.out⟩
      · have hx : cmpI r.length s.length = 0 := cmpI_zero.2 (by omega)
        rw [hx] at hst
        have HS := hide hst
        clear hst hx
        go_wp2_with fail
        go_ret
        exact ⟨ret_int HS.out.symm, HB.out⟩
theorem orders_c (A A2 : Option Addr) (n c n2 c2 : Nat) (r s : List ValV) (w : World) (h : RowAt w w.heap.size A n c r) (h2 : RowAt w w.heap.size A2 n2 c2 s) :
    Calls Tryd.prog 6 #[.slice A n c, .slice A2 n2 c2] w fun e w' => e = .returned (.int .i64 (cmpR r s)) ∧ Below w.heap.size w w' := by
  have Q := hide (cmpFunc_c A A2 n c n2 c2 r s w h h2)
  clear h h2
  go_enter Tryd.func6, Tryd.ntmps6
  go_wp2_with fail
  refine Q.out.mono ?_
  rintro e w1 ⟨rfl, hb⟩
  go_wp2_with fail
  go_ret
  exact ⟨rfl, hb⟩
end Go.Proofs.YtobepbpiagclnaaDoor
namespace Go.Proofs.YtobepbpiagclnaaDoor
set_option linter.unusedVariables false
open Go.ChangeShapes Go.WideShapes Go.ChangeAt Go.RowKit

/-- Texts of a length that an int can say. -/
def StrsOk (r : List ValV) : Prop := ∀ v ∈ r, v.str.size ≤ 9223372036854775807
set_option maxHeartbeats 2000000 in
theorem rorders_c (A A2 : Option Addr) (n c n2 c2 : Nat) (r s : List ValV) (w : World) (h : RowAt w w.heap.size A n c r) (h2 : RowAt w w.heap.size A2 n2 c2 s) (hr : StrsOk r) (hs : StrsOk s) :
    Calls Tryd.prog 22 #[.slice A n c, .slice A2 n2 c2] w fun e w' => e = .returned (.int .i64 (cmpR r s)) ∧ Below w.heap.size w w' := by
  have l1 := h.len
  have l2 := h2.len
  have m1 := h.cap
  have m2 := h.max
  have m3 := h2.cap
  have m4 := h2.max
  unfold maxLen at m2 m4
  have H := hide h
  have H2 := hide h2
  clear h h2
  go_enter Tryd.func22, Tryd.ntmps22
  go_wp2
  go_loopw [5] (fun i wr => ∃ k : Nat, k ≤ n ∧ k ≤ n2 ∧ i = .int .i64 k ∧ Hid (Below w.heap.size w wr) ∧ Hid (cmpR (r.drop k) (s.drop k) = cmpR r s)) (fun i _ => n - (intOf i).toNat)
  case atStart => exact ⟨0, Nat.zero_le _, Nat.zero_le _, rfl, Below.refl _ _, rfl⟩
  case round =>
    obtain ⟨k, hk, hk2, rfl, HB, HR⟩ := hrel
    by_cases hgo : k < n ∧ k < n2
    · obtain ⟨h1, h2⟩ := hgo
      obtain ⟨b, off, v, rfl, hb, hv, hc0, hc1, hc2⟩ := RowAt.val (H.out.below HB.out) h1
      obtain ⟨b2, off2, v2, rfl, hb2, hv2, hd0, hd1, hd2⟩ := RowAt.val (H2.out.below HB.out) h2
      have hst := HR.out.symm.trans (cmpR_at hv hv2)
      have q := fun W => rorder_c v v2 W (hr v (List.mem_of_getElem? hv)) (hs v2 (List.mem_of_getElem? hv2))
      unfold valAgg at q
      obtain ⟨vk, vn, vs⟩ := v
      obtain ⟨vk2, vn2, vs2⟩ := v2
      simp only at q hc0 hc1 hc2 hd0 hd1 hd2
      generalize cmpV ⟨vk, vn, vs⟩ ⟨vk2, vn2, vs2⟩ = x at *
      have HS := hide hst
      have Q := hide q
      clear hst q hv hv2
      by_cases hx : x = 0
      · have HX : Hid (cmpR r s = cmpR (r.drop (k + 1)) (s.drop (k + 1))) := HS.out.trans (if_pos hx)
        subst hx
        go_wp2_with fail
        refine wp_region_held_drew (S := (fun w' => Below wr.heap.size wr w')) (by kernel_rfl) ((Below.refl _ _).drew) (fun hHeld => ?_)
        first | (refine wpAnyH_take (i := 0) (v := ?_) nth0 (by kernel_rfl) (by kernel_rfl) (by kernel_rfl) (fun _ _ _ h => h) (Or.inl ⟨by rfl, ?_⟩) hHeld ?_; rotate_left; focus (intro wS hSw; (have c0 := kept hSw hc0; have c1 := kept hSw hc1; have c2 := kept hSw hc2; have d0 := kept hSw hd0; have d1 := kept hSw hd1; have d2 := kept hSw hd2); go_simp; try with_reducible rfl; done)) | (refine wpAnyH_take (i := 0) (v := undef) nth0 (by kernel_rfl) (by kernel_rfl) (by kernel_rfl) (fun _ _ _ h => h) (Or.inr ⟨by rfl, rfl⟩) hHeld ?_)
        (try simp only [Act.put]); (try simp only [List.setIfInBounds_toArray]); (try simp only [List.set_cons_succ]); (try simp only [List.set_cons_zero])
        first | (refine wpAnyH_take (i := 1) (v := ?_) nth1 (by kernel_rfl) (by kernel_rfl) (by kernel_rfl) (fun _ _ _ h => h) (Or.inl ⟨by rfl, ?_⟩) hHeld ?_; rotate_left; focus (intro wS hSw; (have c0 := kept hSw hc0; have c1 := kept hSw hc1; have c2 := kept hSw hc2; have d0 := kept hSw hd0; have d1 := kept hSw hd1; have d2 := kept hSw hd2); go_simp; try with_reducible rfl; done)) | (refine wpAnyH_take (i := 1) (v := undef) nth1 (by kernel_rfl) (by kernel_rfl) (by kernel_rfl) (fun _ _ _ h => h) (Or.inr ⟨by rfl, rfl⟩) hHeld ?_)
        (try simp only [Act.put]); (try simp only [List.setIfInBounds_toArray]); (try simp only [List.set_cons_succ]); (try simp only [List.set_cons_zero])
        first | (refine wpAnyH_take (i := 2) (v := ?_) nth2 (by kernel_rfl) (by kernel_rfl) (by kernel_rfl) (fun _ _ _ h => h) (Or.inl ⟨by rfl, ?_⟩) hHeld ?_; rotate_left; focus (intro wS hSw; (have c0 := kept hSw hc0; have c1 := kept hSw hc1; have c2 := kept hSw hc2; have d0 := kept hSw hd0; have d1 := kept hSw hd1; have d2 := kept hSw hd2); go_simp; try with_reducible rfl; done)) | (refine wpAnyH_take (i := 2) (v := undef) nth2 (by kernel_rfl) (by kernel_rfl) (by kernel_rfl) (fun _ _ _ h => h) (Or.inr ⟨by rfl, rfl⟩) hHeld ?_)
        (try simp only [Act.put]); (try simp only [List.setIfInBounds_toArray]); (try simp only [List.set_cons_succ]); (try simp only [List.set_cons_zero])
        first | (refine wpAnyH_take (i := 3) (v := ?_) nth3 (by kernel_rfl) (by kernel_rfl) (by kernel_rfl) (fun _ _ _ h => h) (Or.inl ⟨by rfl, ?_⟩) hHeld ?_; rotate_left; focus (intro wS hSw; (have c0 := kept hSw hc0; have c1 := kept hSw hc1; have c2 := kept hSw hc2; have d0 := kept hSw hd0; have d1 := kept hSw hd1; have d2 := kept hSw hd2); go_simp; try with_reducible rfl; done)) | (refine wpAnyH_take (i := 3) (v := undef) nth3 (by kernel_rfl) (by kernel_rfl) (by kernel_rfl) (fun _ _ _ h => h) (Or.inr ⟨by rfl, rfl⟩) hHeld ?_)
        (try simp only [Act.put]); (try simp only [List.setIfInBounds_toArray]); (try simp only [List.set_cons_succ]); (try simp only [List.set_cons_zero])
        first | (refine wpAnyH_take (i := 4) (v := ?_) nth4 (by kernel_rfl) (by kernel_rfl) (by kernel_rfl) (fun _ _ _ h => h) (Or.inl ⟨by rfl, ?_⟩) hHeld ?_; rotate_left; focus (intro wS hSw; (have c0 := kept hSw hc0; have c1 := kept hSw hc1; have c2 := kept hSw hc2; have d0 := kept hSw hd0; have d1 := kept hSw hd1; have d2 := kept hSw hd2); go_simp; try with_reducible rfl; done)) | (refine wpAnyH_take (i := 4) (v := undef) nth4 (by kernel_rfl) (by kernel_rfl) (by kernel_rfl) (fun _ _ _ h => h) (Or.inr ⟨by rfl, rfl⟩) hHeld ?_)
        (try simp only [Act.put]); (try simp only [List.setIfInBounds_toArray]); (try simp only [List.set_cons_succ]); (try simp only [List.set_cons_zero])
        first | (refine wpAnyH_take (i := 5) (v := ?_) nth5 (by kernel_rfl) (by kernel_rfl) (by kernel_rfl) (fun _ _ _ h => h) (Or.inl ⟨by rfl, ?_⟩) hHeld ?_; rotate_left; focus (intro wS hSw; (have c0 := kept hSw hc0; have c1 := kept hSw hc1; have c2 := kept hSw hc2; have d0 := kept hSw hd0; have d1 := kept hSw hd1; have d2 := kept hSw hd2); go_simp; try with_reducible rfl; done)) | (refine wpAnyH_take (i := 5) (v := undef) nth5 (by kernel_rfl) (by kernel_rfl) (by kernel_rfl) (fun _ _ _ h => h) (Or.inr ⟨by rfl, rfl⟩) hHeld ?_)
        (try simp only [Act.put]); (try simp only [List.setIfInBounds_toArray]); (try simp only [List.set_cons_succ]); (try simp only [List.set_cons_zero])
        first | (refine wpAnyH_take (i := 6) (v := ?_) nth6 (by kernel_rfl) (by kernel_rfl) (by kernel_rfl) (fun _ _ _ h => h) (Or.inl ⟨by rfl, ?_⟩) hHeld ?_; rotate_left; focus (intro wS hSw; (have c0 := kept hSw hc0; have c1 := kept hSw hc1; have c2 := kept hSw hc2; have d0 := kept hSw hd0; have d1 := kept hSw hd1; have d2 := kept hSw hd2); go_simp; try with_reducible rfl; done)) | (refine wpAnyH_take (i := 6) (v := undef) nth6 (by kernel_rfl) (by kernel_rfl) (by kernel_rfl) (fun _ _ _ h => h) (Or.inr ⟨by rfl, rfl⟩) hHeld ?_)
        (try simp only [Act.put]); (try simp only [List.setIfInBounds_toArray]); (try simp only [List.set_cons_succ]); (try simp only [List.set_cons_zero])
        first | (refine wpAnyH_take (i := 7) (v := ?_) nth7 (by kernel_rfl) (by kernel_rfl) (by kernel_rfl) (fun _ _ _ h => h) (Or.inl ⟨by rfl, ?_⟩) hHeld ?_; rotate_left; focus (intro wS hSw; (have c0 := kept hSw hc0; have c1 := kept hSw hc1; have c2 := kept hSw hc2; have d0 := kept hSw hd0; have d1 := kept hSw hd1; have d2 := kept hSw hd2); go_simp; try with_reducible rfl; done)) | (refine wpAnyH_take (i := 7) (v := undef) nth7 (by kernel_rfl) (by kernel_rfl) (by kernel_rfl) (fun _ _ _ h => h) (Or.inr ⟨by rfl, rfl⟩) hHeld ?_)
        (try simp only [Act.put]); (try simp only [List.setIfInBounds_toArray]); (try simp only [List.set_cons_succ]); (try simp only [List.set_cons_zero])
        refine wpAnyH_ready (rs := [8]) (by kernel_rfl) (by simp) ?_
        refine AllReadyH.cons nth8 (fun K hK => ?_) AllReadyH.nil
        go_simp
        (go_at_call 35; refine (Q.out _).mono ?_; rintro e w' ⟨rfl, hb⟩)
        refine hK.out _ _ (Bel.then hHeld hb) (fun hHeld => ?_)
        clear hK K
        (try simp only [Act.put]); (try simp only [List.setIfInBounds_toArray]); (try simp only [List.set_cons_succ]); (try simp only [List.set_cons_zero])
        first | (refine wpAnyH_take (i := 9) (v := ?_) nth9 (by kernel_rfl) (by kernel_rfl) (by kernel_rfl) (fun _ _ _ h => h) (Or.inl ⟨by rfl, ?_⟩) hHeld ?_; rotate_left; focus (intro wS hSw; (have c0 := kept hSw hc0; have c1 := kept hSw hc1; have c2 := kept hSw hc2; have d0 := kept hSw hd0; have d1 := kept hSw hd1; have d2 := kept hSw hd2); go_simp; try with_reducible rfl; done)) | (refine wpAnyH_take (i := 9) (v := undef) nth9 (by kernel_rfl) (by kernel_rfl) (by kernel_rfl) (fun _ _ _ h => h) (Or.inr ⟨by rfl, rfl⟩) hHeld ?_)
        (try simp only [Act.put]); (try simp only [List.setIfInBounds_toArray]); (try simp only [List.set_cons_succ]); (try simp only [List.set_cons_zero])
        refine wpAnyH_done (by kernel_rfl) ?_ _
        have HB1 := hide (HB.out.trans (Below.mono hHeld HB.out.size))
        go_wp2_with fail
        go_roundw
        case rel => exact ⟨k + 1, by omega, by omega, by go_num, HB1, HX.out.symm⟩
        case measure => simp [intOf]; omega
      · have HX : Hid (cmpR r s = x) := HS.out.trans (if_neg hx)
        have f1 : (x != 0) = true := by simp [hx]
        clear hx
        go_wp2_with fail
        refine wp_region_held_drew (S := (fun w' => Below wr.heap.size wr w')) (by kernel_rfl) ((Below.refl _ _).drew) (fun hHeld => ?_)
        first | (refine wpAnyH_take (i := 0) (v := ?_) nth0 (by kernel_rfl) (by kernel_rfl) (by kernel_rfl) (fun _ _ _ h => h) (Or.inl ⟨by rfl, ?_⟩) hHeld ?_; rotate_left; focus (intro wS hSw; (have c0 := kept hSw hc0; have c1 := kept hSw hc1; have c2 := kept hSw hc2; have d0 := kept hSw hd0; have d1 := kept hSw hd1; have d2 := kept hSw hd2); go_simp; try with_reducible rfl; done)) | (refine wpAnyH_take (i := 0) (v := undef) nth0 (by kernel_rfl) (by kernel_rfl) (by kernel_rfl) (fun _ _ _ h => h) (Or.inr ⟨by rfl, rfl⟩) hHeld ?_)
        (try simp only [Act.put]); (try simp only [List.setIfInBounds_toArray]); (try simp only [List.set_cons_succ]); (try simp only [List.set_cons_zero])
        first | (refine wpAnyH_take (i := 1) (v := ?_) nth1 (by kernel_rfl) (by kernel_rfl) (by kernel_rfl) (fun _ _ _ h => h) (Or.inl ⟨by rfl, ?_⟩) hHeld ?_; rotate_left; focus (intro wS hSw; (have c0 := kept hSw hc0; have c1 := kept hSw hc1; have c2 := kept hSw hc2; have d0 := kept hSw hd0; have d1 := kept hSw hd1; have d2 := kept hSw hd2); go_simp; try with_reducible rfl; done)) | (refine wpAnyH_take (i := 1) (v := undef) nth1 (by kernel_rfl) (by kernel_rfl) (by kernel_rfl) (fun _ _ _ h => h) (Or.inr ⟨by rfl, rfl⟩) hHeld ?_)
        (try simp only [Act.put]); (try simp only [List.setIfInBounds_toArray]); (try simp only [List.set_cons_succ]); (try simp only [List.set_cons_zero])
        first | (refine wpAnyH_take (i := 2) (v := ?_) nth2 (by kernel_rfl) (by kernel_rfl) (by kernel_rfl) (fun _ _ _ h => h) (Or.inl ⟨by rfl, ?_⟩) hHeld ?_; rotate_left; focus (intro wS hSw; (have c0 := kept hSw hc0; have c1 := kept hSw hc1; have c2 := kept hSw hc2; have d0 := kept hSw hd0; have d1 := kept hSw hd1; have d2 := kept hSw hd2); go_simp; try with_reducible rfl; done)) | (refine wpAnyH_take (i := 2) (v := undef) nth2 (by kernel_rfl) (by kernel_rfl) (by kernel_rfl) (fun _ _ _ h => h) (Or.inr ⟨by rfl, rfl⟩) hHeld ?_)
        (try simp only [Act.put]); (try simp only [List.setIfInBounds_toArray]); (try simp only [List.set_cons_succ]); (try simp only [List.set_cons_zero])
        first | (refine wpAnyH_take (i := 3) (v := ?_) nth3 (by kernel_rfl) (by kernel_rfl) (by kernel_rfl) (fun _ _ _ h => h) (Or.inl ⟨by rfl, ?_⟩) hHeld ?_; rotate_left; focus (intro wS hSw; (have c0 := kept hSw hc0; have c1 := kept hSw hc1; have c2 := kept hSw hc2; have d0 := kept hSw hd0; have d1 := kept hSw hd1; have d2 := kept hSw hd2); go_simp; try with_reducible rfl; done)) | (refine wpAnyH_take (i := 3) (v := undef) nth3 (by kernel_rfl) (by kernel_rfl) (by kernel_rfl) (fun _ _ _ h => h) (Or.inr ⟨by rfl, rfl⟩) hHeld ?_)
        (try simp only [Act.put]); (try simp only [List.setIfInBounds_toArray]); (try simp only [List.set_cons_succ]); (try simp only [List.set_cons_zero])
        first | (refine wpAnyH_take (i := 4) (v := ?_) nth4 (by kernel_rfl) (by kernel_rfl) (by kernel_rfl) (fun _ _ _ h => h) (Or.inl ⟨by rfl, ?_⟩) hHeld ?_; rotate_left; focus (intro wS hSw; (have c0 := kept hSw hc0; have c1 := kept hSw hc1; have c2 := kept hSw hc2; have d0 := kept hSw hd0; have d1 := kept hSw hd1; have d2 := kept hSw hd2); go_simp; try with_reducible rfl; done)) | (refine wpAnyH_take (i := 4) (v := undef) nth4 (by kernel_rfl) (by kernel_rfl) (by kernel_rfl) (fun _ _ _ h => h) (Or.inr ⟨by rfl, rfl⟩) hHeld ?_)
        (try simp only [Act.put]); (try simp only [List.setIfInBounds_toArray]); (try simp only [List.set_cons_succ]); (try simp only [List.set_cons_zero])
        first | (refine wpAnyH_take (i := 5) (v := ?_) nth5 (by kernel_rfl) (by kernel_rfl) (by kernel_rfl) (fun _ _ _ h => h) (Or.inl ⟨by rfl, ?_⟩) hHeld ?_; rotate_left; focus (intro wS hSw; (have c0 := kept hSw hc0; have c1 := kept hSw hc1; have c2 := kept hSw hc2; have d0 := kept hSw hd0; have d1 := kept hSw hd1; have d2 := kept hSw hd2); go_simp; try with_reducible rfl; done)) | (refine wpAnyH_take (i := 5) (v := undef) nth5 (by kernel_rfl) (by kernel_rfl) (by kernel_rfl) (fun _ _ _ h => h) (Or.inr ⟨by rfl, rfl⟩) hHeld ?_)
        (try simp only [Act.put]); (try simp only [List.setIfInBounds_toArray]); (try simp only [List.set_cons_succ]); (try simp only [List.set_cons_zero])
        first | (refine wpAnyH_take (i := 6) (v := ?_) nth6 (by kernel_rfl) (by kernel_rfl) (by kernel_rfl) (fun _ _ _ h => h) (Or.inl ⟨by rfl, ?_⟩) hHeld ?_; rotate_left; focus (intro wS hSw; (have c0 := kept hSw hc0; have c1 := kept hSw hc1; have c2 := kept hSw hc2; have d0 := kept hSw hd0; have d1 := kept hSw hd1; have d2 := kept hSw hd2); go_simp; try with_reducible rfl; done)) | (refine wpAnyH_take (i := 6) (v := undef) nth6 (by kernel_rfl) (by kernel_rfl) (by kernel_rfl) (fun _ _ _ h => h) (Or.inr ⟨by rfl, rfl⟩) hHeld ?_)
        (try simp only [Act.put]); (try simp only [List.setIfInBounds_toArray]); (try simp only [List.set_cons_succ]); (try simp only [List.set_cons_zero])
        first | (refine wpAnyH_take (i := 7) (v := ?_) nth7 (by kernel_rfl) (by kernel_rfl) (by kernel_rfl) (fun _ _ _ h => h) (Or.inl ⟨by rfl, ?_⟩) hHeld ?_; rotate_left; focus (intro wS hSw; (have c0 := kept hSw hc0; have c1 := kept hSw hc1; have c2 := kept hSw hc2; have d0 := kept hSw hd0; have d1 := kept hSw hd1; have d2 := kept hSw hd2); go_simp; try with_reducible rfl; done)) | (refine wpAnyH_take (i := 7) (v := undef) nth7 (by kernel_rfl) (by kernel_rfl) (by kernel_rfl) (fun _ _ _ h => h) (Or.inr ⟨by rfl, rfl⟩) hHeld ?_)
        (try simp only [Act.put]); (try simp only [List.setIfInBounds_toArray]); (try simp only [List.set_cons_succ]); (try simp only [List.set_cons_zero])
        refine wpAnyH_ready (rs := [8]) (by kernel_rfl) (by simp) ?_
        refine AllReadyH.cons nth8 (fun K hK => ?_) AllReadyH.nil
        go_simp
        (go_at_call 35; refine (Q.out _).mono ?_; rintro e w' ⟨rfl, hb⟩)
        refine hK.out _ _ (Bel.then hHeld hb) (fun hHeld => ?_)
        clear hK K
        (try simp only [Act.put]); (try simp only [List.setIfInBounds_toArray]); (try simp only [List.set_cons_succ]); (try simp only [List.set_cons_zero])
        first | (refine wpAnyH_take (i := 9) (v := ?_) nth9 (by kernel_rfl) (by kernel_rfl) (by kernel_rfl) (fun _ _ _ h => h) (Or.inl ⟨by rfl, ?_⟩) hHeld ?_; rotate_left; focus (intro wS hSw; (have c0 := kept hSw hc0; have c1 := kept hSw hc1; have c2 := kept hSw hc2; have d0 := kept hSw hd0; have d1 := kept hSw hd1; have d2 := kept hSw hd2); go_simp; try with_reducible rfl; done)) | (refine wpAnyH_take (i := 9) (v := undef) nth9 (by kernel_rfl) (by kernel_rfl) (by kernel_rfl) (fun _ _ _ h => h) (Or.inr ⟨by rfl, rfl⟩) hHeld ?_)
        (try simp only [Act.put]); (try simp only [List.setIfInBounds_toArray]); (try simp only [List.set_cons_succ]); (try simp only [List.set_cons_zero])
        refine wpAnyH_done (by kernel_rfl) ?_ _
        have HB1 := hHeld
        have c0 := kept HB1 hc0
        have c1 := kept HB1 hc1
        have c2 := kept HB1 hc2
        have d0 := kept HB1 hd0
        have d1 := kept HB1 hd1
        have d2 := kept HB1 hd2
        go_wp2_with fail
        refine wp_region_held_drew (S := (fun w' => Below wr.heap.size wr w')) (by kernel_rfl) ((Below.drew HB1)) (fun hHeld => ?_)
        first | (refine wpAnyH_take (i := 0) (v := ?_) nth0 (by kernel_rfl) (by kernel_rfl) (by kernel_rfl) (fun _ _ _ h => h) (Or.inl ⟨by rfl, ?_⟩) hHeld ?_; rotate_left; focus (intro wS hSw; (have c0 := kept hSw hc0; have c1 := kept hSw hc1; have c2 := kept hSw hc2; have d0 := kept hSw hd0; have d1 := kept hSw hd1; have d2 := kept hSw hd2); go_simp; try with_reducible rfl; done)) | (refine wpAnyH_take (i := 0) (v := undef) nth0 (by kernel_rfl) (by kernel_rfl) (by kernel_rfl) (fun _ _ _ h => h) (Or.inr ⟨by rfl, rfl⟩) hHeld ?_)
        (try simp only [Act.put]); (try simp only [List.setIfInBounds_toArray]); (try simp only [List.set_cons_succ]); (try simp only [List.set_cons_zero])
        first | (refine wpAnyH_take (i := 1) (v := ?_) nth1 (by kernel_rfl) (by kernel_rfl) (by kernel_rfl) (fun _ _ _ h => h) (Or.inl ⟨by rfl, ?_⟩) hHeld ?_; rotate_left; focus (intro wS hSw; (have c0 := kept hSw hc0; have c1 := kept hSw hc1; have c2 := kept hSw hc2; have d0 := kept hSw hd0; have d1 := kept hSw hd1; have d2 := kept hSw hd2); go_simp; try with_reducible rfl; done)) | (refine wpAnyH_take (i := 1) (v := undef) nth1 (by kernel_rfl) (by kernel_rfl) (by kernel_rfl) (fun _ _ _ h => h) (Or.inr ⟨by rfl, rfl⟩) hHeld ?_)
        (try simp only [Act.put]); (try simp only [List.setIfInBounds_toArray]); (try simp only [List.set_cons_succ]); (try simp only [List.set_cons_zero])
        first | (refine wpAnyH_take (i := 2) (v := ?_) nth2 (by kernel_rfl) (by kernel_rfl) (by kernel_rfl) (fun _ _ _ h => h) (Or.inl ⟨by rfl, ?_⟩) hHeld ?_; rotate_left; focus (intro wS hSw; (have c0 := kept hSw hc0; have c1 := kept hSw hc1; have c2 := kept hSw hc2; have d0 := kept hSw hd0; have d1 := kept hSw hd1; have d2 := kept hSw hd2); go_simp; try with_reducible rfl; done)) | (refine wpAnyH_take (i := 2) (v := undef) nth2 (by kernel_rfl) (by kernel_rfl) (by kernel_rfl) (fun _ _ _ h => h) (Or.inr ⟨by rfl, rfl⟩) hHeld ?_)
        (try simp only [Act.put]); (try simp only [List.setIfInBounds_toArray]); (try simp only [List.set_cons_succ]); (try simp only [List.set_cons_zero])
        first | (refine wpAnyH_take (i := 3) (v := ?_) nth3 (by kernel_rfl) (by kernel_rfl) (by kernel_rfl) (fun _ _ _ h => h) (Or.inl ⟨by rfl, ?_⟩) hHeld ?_; rotate_left; focus (intro wS hSw; (have c0 := kept hSw hc0; have c1 := kept hSw hc1; have c2 := kept hSw hc2; have d0 := kept hSw hd0; have d1 := kept hSw hd1; have d2 := kept hSw hd2); go_simp; try with_reducible rfl; done)) | (refine wpAnyH_take (i := 3) (v := undef) nth3 (by kernel_rfl) (by kernel_rfl) (by kernel_rfl) (fun _ _ _ h => h) (Or.inr ⟨by rfl, rfl⟩) hHeld ?_)
        (try simp only [Act.put]); (try simp only [List.setIfInBounds_toArray]); (try simp only [List.set_cons_succ]); (try simp only [List.set_cons_zero])
        first | (refine wpAnyH_take (i := 4) (v := ?_) nth4 (by kernel_rfl) (by kernel_rfl) (by kernel_rfl) (fun _ _ _ h => h) (Or.inl ⟨by rfl, ?_⟩) hHeld ?_; rotate_left; focus (intro wS hSw; (have c0 := kept hSw hc0; have c1 := kept hSw hc1; have c2 := kept hSw hc2; have d0 := kept hSw hd0; have d1 := kept hSw hd1; have d2 := kept hSw hd2); go_simp; try with_reducible rfl; done)) | (refine wpAnyH_take (i := 4) (v := undef) nth4 (by kernel_rfl) (by kernel_rfl) (by kernel_rfl) (fun _ _ _ h => h) (Or.inr ⟨by rfl, rfl⟩) hHeld ?_)
        (try simp only [Act.put]); (try simp only [List.setIfInBounds_toArray]); (try simp only [List.set_cons_succ]); (try simp only [List.set_cons_zero])
        first | (refine wpAnyH_take (i := 5) (v := ?_) nth5 (by kernel_rfl) (by kernel_rfl) (by kernel_rfl) (fun _ _ _ h => h) (Or.inl ⟨by rfl, ?_⟩) hHeld ?_; rotate_left; focus (intro wS hSw; (have c0 := kept hSw hc0; have c1 := kept hSw hc1; have c2 := kept hSw hc2; have d0 := kept hSw hd0; have d1 := kept hSw hd1; have d2 := kept hSw hd2); go_simp; try with_reducible rfl; done)) | (refine wpAnyH_take (i := 5) (v := undef) nth5 (by kernel_rfl) (by kernel_rfl) (by kernel_rfl) (fun _ _ _ h => h) (Or.inr ⟨by rfl, rfl⟩) hHeld ?_)
        (try simp only [Act.put]); (try simp only [List.setIfInBounds_toArray]); (try simp only [List.set_cons_succ]); (try simp only [List.set_cons_zero])
        first | (refine wpAnyH_take (i := 6) (v := ?_) nth6 (by kernel_rfl) (by kernel_rfl) (by kernel_rfl) (fun _ _ _ h => h) (Or.inl ⟨by rfl, ?_⟩) hHeld ?_; rotate_left; focus (intro wS hSw; (have c0 := kept hSw hc0; have c1 := kept hSw hc1; have c2 := kept hSw hc2; have d0 := kept hSw hd0; have d1 := kept hSw hd1; have d2 := kept hSw hd2); go_simp; try with_reducible rfl; done)) | (refine wpAnyH_take (i := 6) (v := undef) nth6 (by kernel_rfl) (by kernel_rfl) (by kernel_rfl) (fun _ _ _ h => h) (Or.inr ⟨by rfl, rfl⟩) hHeld ?_)
        (try simp only [Act.put]); (try simp only [List.setIfInBounds_toArray]); (try simp only [List.set_cons_succ]); (try simp only [List.set_cons_zero])
        first | (refine wpAnyH_take (i := 7) (v := ?_) nth7 (by kernel_rfl) (by kernel_rfl) (by kernel_rfl) (fun _ _ _ h => h) (Or.inl ⟨by rfl, ?_⟩) hHeld ?_; rotate_left; focus (intro wS hSw; (have c0 := kept hSw hc0; have c1 := kept hSw hc1; have c2 := kept hSw hc2; have d0 := kept hSw hd0; have d1 := kept hSw hd1; have d2 := kept hSw hd2); go_simp; try with_reducible rfl; done)) | (refine wpAnyH_take (i := 7) (v := undef) nth7 (by kernel_rfl) (by kernel_rfl) (by kernel_rfl) (fun _ _ _ h => h) (Or.inr ⟨by rfl, rfl⟩) hHeld ?_)
        (try simp only [Act.put]); (try simp only [List.setIfInBounds_toArray]); (try simp only [List.set_cons_succ]); (try simp only [List.set_cons_zero])
        refine wpAnyH_ready (rs := [8]) (by kernel_rfl) (by simp) ?_
        refine AllReadyH.cons nth8 (fun K hK => ?_) AllReadyH.nil
        go_simp
        (go_at_call 35; refine (Q.out _).mono ?_; rintro e w' ⟨rfl, hb⟩)
        refine hK.out _ _ (Bel.then hHeld hb) (fun hHeld => ?_)
        clear hK K
        (try simp only [Act.put]); (try simp only [List.setIfInBounds_toArray]); (try simp only [List.set_cons_succ]); (try simp only [List.set_cons_zero])
        first | (refine wpAnyH_take (i := 9) (v := ?_) nth9 (by kernel_rfl) (by kernel_rfl) (by kernel_rfl) (fun _ _ _ h => h) (Or.inl ⟨by rfl, ?_⟩) hHeld ?_; rotate_left; focus (intro wS hSw; (have c0 := kept hSw hc0; have c1 := kept hSw hc1; have c2 := kept hSw hc2; have d0 := kept hSw hd0; have d1 := kept hSw hd1; have d2 := kept hSw hd2); go_simp; try with_reducible rfl; done)) | (refine wpAnyH_take (i := 9) (v := undef) nth9 (by kernel_rfl) (by kernel_rfl) (by kernel_rfl) (fun _ _ _ h => h) (Or.inr ⟨by rfl, rfl⟩) hHeld ?_)
        (try simp only [Act.put]); (try simp only [List.setIfInBounds_toArray]); (try simp only [List.set_cons_succ]); (try simp only [List.set_cons_zero])
        refine wpAnyH_done (by kernel_rfl) ?_ _
        have HB2 := hide (HB.out.trans (Below.mono hHeld HB.out.size))
        go_wp2_with fail
        go_ret
        exact ⟨ret_int HX.out.symm, HB2.out⟩
    · have hst := HR.out.symm.trans (cmpR_end (by omega) (by omega) (by omega))
      rw [l1, l2] at hst
      have HS := hide hst
      clear hst
      rcases (show ¬ k < n ∨ (k < n ∧ ¬ k < n2) by omega) with h1 | ⟨h1, h2⟩
      all_goals
        clear hgo
        go_wp2_with (go_at_call 36; refine (ints_c _ _ _).mono ?_; rintro e w' ⟨rfl, rfl⟩)
        go_ret
        exact ⟨ret_int HS.out.symm, HB.out⟩
end Go.Proofs.YtobepbpiagclnaaDoor
namespace Go.Proofs.YtobepbpiagclnaaDoor
set_option linter.unusedVariables false
open Go.ChangeShapes Go.WideShapes Go.ChangeAt Go.RowKit

def quoteL : List UInt8 → List UInt8
  | [] => []
  | c :: l => if c = 39 then 39 :: 39 :: quoteL l else c :: quoteL l
theorem quoteL_app : ∀ l m : List UInt8, quoteL (l ++ m) = quoteL l ++ quoteL m
  | [], m => rfl
  | c :: l, m => by
    simp only [List.cons_append, quoteL, quoteL_app l m]
    split <;> rfl
theorem quoteL_len : ∀ l : List UInt8, (quoteL l).length ≤ 2 * l.length
  | [] => by simp [quoteL]
  | c :: l => by
    have := quoteL_len l
    simp only [quoteL]
    split <;> simp <;> omega
theorem replace_quote : ∀ s : List UInt8, Lib.replaceK [39] [39, 39] (Lib.count s [39]) s = quoteL s
  | [] => by rw [Lib.count_one]; rfl
  | c :: l => by
    have ih := replace_quote l
    by_cases h : c = 39
    · subst h
      have hi : Lib.index (39 :: l) [39] = (0 : Nat) := by simp [Lib.index]
      have hc : Lib.count (39 :: l) [39] = Lib.count l [39] + 1 := by rw [Lib.count_one, Lib.count_one, List.count_cons_self]
      rw [hc, Lib.replaceK_hit _ _ _ _ 0 hi]
      simp [quoteL, ih]
    · have hc : Lib.count (c :: l) [39] = Lib.count l [39] := Lib.count_cons_ne c 39 l h
      have hq : quoteL (c :: l) = c :: quoteL l := by simp [quoteL, h]
      rw [hc, hq, ← ih]
      cases hk : Lib.count l [39] with
      | zero => rfl
      | succ k =>
        obtain ⟨i, hi⟩ := Lib.index_of_count (s := l) (old := [39]) (by omega)
        have hi2 : Lib.index (c :: l) [39] = ((i + 1 : Nat) : Int) := by
          have h0 : ¬ (39 : UInt8) = c := fun e => h e.symm
          simp [Lib.index, hi, h0]
        rw [Lib.replaceK_hit _ _ _ _ i hi, Lib.replaceK_hit _ _ _ _ (i + 1) hi2]
        simp
theorem replaceAll_quote (s : List UInt8) : Lib.replaceAll s [39] [39, 39] = quoteL s := by
  unfold Lib.replaceAll Lib.replace Lib.replaceNum
  rw [if_neg (by decide), if_pos (by omega)]
  exact replace_quote s
end Go.Proofs.YtobepbpiagclnaaDoor
namespace Go.Proofs.YtobepbpiagclnaaDoor
set_option linter.unusedVariables false
open Go.ChangeShapes Go.WideShapes Go.ChangeAt Go.RowKit

theorem gPow : Tryd.prog.globalNamed "internal/strconv.uint64pow10" = some 3 := by kernel_rfl
theorem tPow : (Tryd.prog.globals[3]?).map (·.type) = some 87 := by kernel_rfl
/-- What the walks are told of the library's variables: the table of powers. -/
structure NumW (W : World) : Prop where
  tab : Lib.TabIs Tryd.prog W "internal/strconv.uint64pow10" .u64 Lib.pow10Tab
theorem NumW.keep {W W' : World} (h : NumW W) (hb : Below W.heap.size W W') : NumW W' := ⟨Joins.tab_stays gPow h.tab hb (Nat.le_refl _)⟩
theorem below_grown (w : World) (n : Nat) (os : Array Obj) : Below w.heap.size w (Sort.grow (w.drewN n) os) :=
  ⟨rfl, rfl, rfl, by show w.heap.size ≤ (w.heap ++ os).size; rw [Array.size_append]; omega, fun _ hj => Sort.heap_grow_old (w.drewN n) os hj⟩

theorem text_c (n : Int) (h0 : -9223372036854775808 ≤ n) (h1 : n ≤ 9223372036854775807) (w : World) (hW : NumW w) :
    Calls Tryd.prog 31 #[.int .i64 n] w fun e w' => e = .returned (.string ⟨(Lib.itoa n).toArray⟩) ∧ Below w.heap.size w w' := by
  have HW := hide hW
  clear hW
  have HC := hide (Tryd.strconv_Itoa n h0 h1 w HW.out.tab)
  clear h0 h1
  go_enter Tryd.func31, Tryd.ntmps31
  go_wp2_with fail
  refine HC.out.mono ?_
  rintro e w' ⟨rfl, k, os, hw⟩
  have hb := below_grown w k os
  rw [← hw] at hb
  clear hw
  go_wp2_with fail
  go_ret
  exact ⟨rfl, hb⟩
end Go.Proofs.YtobepbpiagclnaaDoor
namespace Go.Proofs.YtobepbpiagclnaaDoor
set_option linter.unusedVariables false
open Go.ChangeShapes Go.WideShapes Go.ChangeAt Go.RowKit

def dig (i : Int) : UInt8 := UInt8.ofNat (48 + i.toNat)
theorem pick_c (i j : Int) (h0 : 0 ≤ i) (h1 : i < 10) (hj : j = i + 1) (W : World) : (Instr.slice 9 (.string { data := #[48, 49, 50, 51, 52, 53, 54, 55, 56, 57] }) (some (.int .i64 i)) (some (.int .i64 j)) none).run Tryd.prog W = .ok (.string { data := #[dig i] }) W := by
  subst hj
  rw [run_slice_string (P := Tryd.prog) W 9 _ .i64 .i64 i (i + 1) Tryd.underlying9 h0 (by omega) (by simp only [ByteArray.size, List.size_toArray, List.length_cons, List.length_nil]; omega)]
  obtain rfl | rfl | rfl | rfl | rfl | rfl | rfl | rfl | rfl | rfl : i = 0 ∨ i = 1 ∨ i = 2 ∨ i = 3 ∨ i = 4 ∨ i = 5 ∨ i = 6 ∨ i = 7 ∨ i = 8 ∨ i = 9 := by omega
  all_goals rfl
theorem itoa_small (n : Int) (h0 : 0 ≤ n) (h1 : n < 10) : Lib.itoa n = [dig n] := by
  unfold Lib.itoa
  rw [if_neg (by omega), Lib.decDigits_one (by omega), dig]
theorem itoa_low (n : Int) (h0 : n < 0) (h1 : -10 < n) : Lib.itoa n = [45, dig (-n)] := by
  unfold Lib.itoa
  rw [if_pos (by omega), Lib.decDigits_one (by omega), show n.natAbs = (-n).toNat by omega, dig]
theorem itoa_pos (n : Int) (h0 : 10 ≤ n) : Lib.itoa n = Lib.itoa (n / 10) ++ [dig (n % 10)] := by
  unfold Lib.itoa
  rw [if_neg (by omega), if_neg (by omega), Lib.decDigits, dif_neg (by omega), show n.toNat / 10 = (n / 10).toNat by omega, show n.toNat % 10 = (n % 10).toNat by omega, dig]
theorem itoa_neg (n : Int) (h0 : n ≤ -10) : Lib.itoa n = Lib.itoa (n.tdiv 10) ++ [dig (-(n.tmod 10))] := by
  have e1 : n.tdiv 10 = -((-n) / 10) := by rw [← Int.tdiv_eq_ediv_of_nonneg (by omega), Int.neg_tdiv]; omega
  have e2 : n.tmod 10 = -((-n) % 10) := by rw [← Int.tmod_eq_emod_of_nonneg (by omega), Int.neg_tmod]; omega
  rw [e1, e2]
  unfold Lib.itoa
  rw [if_pos (by omega), if_pos (by omega), Lib.decDigits, dif_neg (by omega), show n.natAbs / 10 = (-(-n / 10)).natAbs by omega, show n.natAbs % 10 = (- -(-n % 10)).toNat by omega, dig]
  rfl
end Go.Proofs.YtobepbpiagclnaaDoor
namespace Go.Proofs.YtobepbpiagclnaaDoor
set_option linter.unusedVariables false
open Go.ChangeShapes Go.WideShapes Go.ChangeAt Go.RowKit

theorem ret_str {s t : ByteArray} (h : s = t) : Ending.returned (.string s) = Ending.returned (.string t) := by rw [h]
theorem str_app (s : ByteArray) (x : UInt8) : s ++ { data := #[x] } = { data := (s.data.toList ++ [x]).toArray } := by
  apply ByteArray.ext
  simp only [ByteArray.data_append]
  apply Array.ext'
  simp
theorem wr (n : Int) (h0 : -9223372036854775808 ≤ n) (h1 : n ≤ 9223372036854775807) : IntKind.i64.wrap n = n := IntWalk.i64_in n ⟨h0, h1⟩
theorem itoa_size (n : Int) (hlo : -9223372036854775808 ≤ n) (hhi : n ≤ 9223372036854775807) : ((⟨(Lib.itoa n).toArray⟩ : ByteArray).size : Int) ≤ 8388608 := by
  have := Lib.itoa_length_le n hlo hhi
  simp only [ByteArray.size, List.size_toArray]
  omega
end Go.Proofs.YtobepbpiagclnaaDoor
namespace Go.Proofs.YtobepbpiagclnaaDoor
set_option linter.unusedVariables false
open Go.ChangeShapes Go.WideShapes Go.ChangeAt Go.RowKit

/-- What the walks are told of variables: the table of powers; some number in the library's MaxLen. -/
structure ValW (w : World) : Prop where
  num : NumW w
  max : ∃ m, w.cell? ⟨0, 0, none⟩ = some (.int .i64 m)
theorem ValW.keep {w w' : World} (h : ValW w) (hb : Below w.heap.size w w') : ValW w' := ⟨h.num.keep hb, let ⟨m, hm⟩ := h.max; ⟨m, kept hb hm⟩⟩
def quoteP (s : ByteArray) : ByteArray := ⟨(39 :: (quoteL s.data.toList ++ [39])).toArray⟩
def textV (v : ValV) : ByteArray :=
  if v.kind = 1 then (if v.num = 0 then { data := #[102, 97, 108, 115, 101] } else { data := #[116, 114, 117, 101] })
  else if v.kind = 2 then ⟨(Lib.itoa v.num).toArray⟩
  else if v.kind = 3 then quoteP v.str
  else { data := #[110, 117, 108, 108] }
theorem quote_parts (s : ByteArray) : ({ data := #[39] } ++ ⟨(quoteL s.data.toList).toArray⟩ ++ { data := #[39] } : ByteArray) = quoteP s := by
  apply ByteArray.ext
  unfold quoteP
  simp [ByteArray.data_append]
set_option maxHeartbeats 1000000 in
theorem vtext_c (v : ValV) (w : World) (hW : ValW w) (hn : -9223372036854775808 ≤ v.num ∧ v.num ≤ 9223372036854775807) (hs : v.str.size ≤ 1048576) :
    Calls Tryd.prog 18 #[valAgg v] w fun e w' => e = .returned (.string (textV v)) ∧ Below w.heap.size w w' := by
  obtain ⟨k, n, s⟩ := v
  unfold valAgg textV
  simp only at *
  have HW := hide (hW.keep (Bel.one w (.cells #[.int .i64 k, .int .i64 n, .string s] 33)))
  clear hW
  rcases (show k = 1 ∨ k = 2 ∨ k = 3 ∨ (¬ k = 1 ∧ ¬ k = 2 ∧ ¬ k = 3) by omega) with rfl | rfl | rfl | ⟨g1, g2, g3⟩
  · rw [if_pos rfl]
    by_cases h0 : n = 0
    · subst h0
      rw [if_pos rfl]
      go_enter Tryd.func18, Tryd.ntmps18
      go_wp2
      go_ret
      exact ⟨rfl, Bel.one _ _⟩
    · rw [if_neg h0]
      have f : (n == 0) = false := by simp [h0]
      clear h0
      go_enter Tryd.func18, Tryd.ntmps18
      go_wp2
      go_ret
      exact ⟨rfl, Bel.one _ _⟩
  · rw [if_neg (by omega), if_pos rfl]
    go_enter Tryd.func18, Tryd.ntmps18
    go_wp2_with fail
    refine (text_c n hn.1 hn.2 _ HW.out.num).mono ?_
    rintro e w1 ⟨rfl, hb⟩
    have HB := hide (Bel.then (Bel.one _ _) hb)
    clear hb
    go_wp2_with fail
    go_ret
    exact ⟨rfl, HB.out⟩
  · rw [if_neg (by omega), if_neg (by omega), if_pos rfl]
    obtain ⟨m, hm⟩ := HW.out.max
    have hc := Lib.countB_le { data := #[39] } (by decide) s.size s (Nat.le_refl _)
    have q := Tryd.strings_ReplaceAll s { data := #[39] } { data := #[39, 39] } m _ (by omega) hm (by decide) (by show s.size + Lib.countB s _ * 2 ≤ _; omega)
    rw [show ({ data := #[39] } : ByteArray).data.toList = [39] from rfl, show ({ data := #[39, 39] } : ByteArray).data.toList = [39, 39] from rfl, replaceAll_quote] at q
    have hp := quote_parts s
    have hz : ((⟨(quoteL s.data.toList).toArray⟩ : ByteArray).size : Int) ≤ 4194304 := by
      have h1 := quoteL_len s.data.toList
      have h2 := str_len s
      show (((quoteL s.data.toList).toArray.size : Nat) : Int) ≤ _
      rw [List.size_toArray]
      omega
    generalize (⟨(quoteL s.data.toList).toArray⟩ : ByteArray) = x at *
    have Q := hide q
    have HP := hide hp
    clear q hp hm hc
    go_enter Tryd.func18, Tryd.ntmps18
    go_wp2_with fail
    refine Q.out.mono ?_
    rintro e w1 ⟨rfl, hb⟩
    have HB := hide (Bel.then (Bel.one _ _) hb)
    clear hb
    go_wp2_with fail
    go_ret
    refine ⟨?_, HB.out⟩
    rw [← HP.out]
    rfl
  · rw [if_neg g1, if_neg g2, if_neg g3]
    have f1 : (k == 1) = false := by simp [g1]
    have f2 : (k == 2) = false := by simp [g2]
    have f3 : (k == 3) = false := by simp [g3]
    clear g1 g2 g3
    go_enter Tryd.func18, Tryd.ntmps18
    go_wp2
    go_ret
    exact ⟨rfl, Bel.one _ _⟩
end Go.Proofs.YtobepbpiagclnaaDoor
namespace Go.Proofs.YtobepbpiagclnaaDoor
set_option linter.unusedVariables false
open Go.ChangeShapes Go.WideShapes Go.ChangeAt Go.RowKit

def openQ (l : List UInt8) : ByteArray := ⟨(39 :: quoteL l).toArray⟩
theorem openQ_size (l : List UInt8) : (openQ l).size ≤ 1 + 2 * l.length := by
  have := quoteL_len l
  show ((39 :: quoteL l).toArray.size : Nat) ≤ _
  rw [List.size_toArray, List.length_cons]
  omega
theorem openQ_snoc (l : List UInt8) (c : UInt8) : openQ (l ++ [c]) = if c = 39 then openQ l ++ { data := #[39] } ++ { data := #[c] } else openQ l ++ { data := #[c] } := by
  unfold openQ
  rw [quoteL_app]
  by_cases h : c = 39
  · subst h
    rw [if_pos rfl]
    apply ByteArray.ext
    simp [quoteL, ByteArray.data_append]
  · rw [if_neg h]
    apply ByteArray.ext
    simp [quoteL, h, ByteArray.data_append]
theorem openQ_end (s : ByteArray) : openQ s.data.toList ++ { data := #[39] } = quoteP s := by
  unfold openQ quoteP
  apply ByteArray.ext
  simp [ByteArray.data_append]
theorem slice_one (s : ByteArray) (k : Nat) (h : k < s.size) : s.extract k (k + 1) = { data := #[s[k]] } := by
  apply ByteArray.ext
  apply Array.ext'
  rw [ByteArray.data_extract, Array.toList_extract, List.extract_eq_take_drop, List.drop_eq_getElem_cons (by rw [str_len]; exact h), show k + 1 - k = 1 by omega]
  rfl
theorem pick_one (s : ByteArray) (j : Nat) (h : j < s.size) (hm : s.size ≤ 1048576) (W : World) : (Instr.slice 9 (.string s) (some (.int .i64 j)) (some (.int .i64 ((j : Int) + 1))) none).run Tryd.prog W = .ok (.string { data := #[s[j]] }) W := by
  rw [run_slice_string (P := Tryd.prog) W 9 s .i64 .i64 j ((j : Int) + 1) Tryd.underlying9 (by omega) (by omega) (by omega)]
  rw [show ((j : Int)).toNat = j by omega, show ((j : Int) + 1).toNat = j + 1 by omega, slice_one s j h]
end Go.Proofs.YtobepbpiagclnaaDoor

/- What the texts behind this one use: SoA, SoB, SoM, SoC, SoD, SoE, SoF, SoG, SoH, SoI, SoP, SoQ, SoR, SoS, SoT, SoU, SoV, SoW, SoX, SoY, SoYw, SpA, SpB. -/
import Derived.Test.YtobepbpiagclnaaDoorValGb
import Derived.Test.YtobepbpiagclnaaDoorValGc
import Derived.Test.YtobepbpiagclnaaDoorValGa
import Derived.Deep.Cut
namespace Go.Proofs.YtobepbpiagclnaaDoor
set_option linter.unusedVariables false
open Go.ChangeShapes Go.WideShapes Go.ChangeAt Go.RowKit

def keyC (k : Int × Bool) : List Value := [.int .i64 k.1, .bool k.2]
abbrev KeysAt := SlAt keyC 2
def valD : ValV := ⟨0, 0, .empty⟩
/-- Does r stand ahead of s, by keys? -/
def befB (r s : List ValV) : List (Int × Bool) → Bool
  | [] => decide (cmpR r s < 0)
  | k :: ks => if k.1 < 0 ∨ (r.length : Int) ≤ k.1 ∨ (s.length : Int) ≤ k.1 then befB r s ks else
      if cmpV (r.getD k.1.toNat valD) (s.getD k.1.toNat valD) = 0 then befB r s ks else (decide (cmpV (r.getD k.1.toNat valD) (s.getD k.1.toNat valD) < 0) != k.2)
theorem befB_skip {r s : List ValV} {ks : List (Int × Bool)} {j : Nat} {a : Int} {d : Bool} (h : ks[j]? = some (a, d)) (ha : a < 0 ∨ (r.length : Int) ≤ a ∨ (s.length : Int) ≤ a) : befB r s (ks.drop j) = befB r s (ks.drop (j + 1)) := by
  rw [drop_at h, befB, if_pos ha]
theorem befB_level {r s : List ValV} {ks : List (Int × Bool)} {j i : Nat} {d : Bool} {u v : ValV} (h : ks[j]? = some ((i : Int), d)) (hu : r[i]? = some u) (hv : s[i]? = some v) (he : cmpV u v = 0) : befB r s (ks.drop j) = befB r s (ks.drop (j + 1)) := by
  have h1 := (List.getElem?_eq_some_iff.1 hu).1
  have h2 := (List.getElem?_eq_some_iff.1 hv).1
  rw [drop_at h, befB, if_neg (by simp only; omega)]
  simp only
  rw [show ((i : Int)).toNat = i from by omega, List.getD_eq_getElem?_getD, List.getD_eq_getElem?_getD, hu, hv]
  exact if_pos he
theorem befB_says {r s : List ValV} {ks : List (Int × Bool)} {j i : Nat} {d : Bool} {u v : ValV} (h : ks[j]? = some ((i : Int), d)) (hu : r[i]? = some u) (hv : s[i]? = some v) (he : ¬ cmpV u v = 0) : befB r s (ks.drop j) = (decide (cmpV u v < 0) != d) := by
  have h1 := (List.getElem?_eq_some_iff.1 hu).1
  have h2 := (List.getElem?_eq_some_iff.1 hv).1
  rw [drop_at h, befB, if_neg (by simp only; omega)]
  simp only
  rw [show ((i : Int)).toNat = i from by omega, List.getD_eq_getElem?_getD, List.getD_eq_getElem?_getD, hu, hv]
  exact if_neg he
theorem KeysAt.key {w : World} {B n c : Nat} {A : Option Addr} {l : List (Int × Bool)} (h : KeysAt w B A n c l) {i : Nat} (hi : i < n) :
    ∃ b off a d, A = some ⟨b, off, none⟩ ∧ b < B ∧ l[i]? = some (a, d) ∧ w.cell? ⟨b, off + i * 2, none⟩ = some (.int .i64 a) ∧ w.cell? ⟨b, off + i * 2 + 1, none⟩ = some (.bool d) := by
  obtain ⟨b, off, x, e, hb, hx, hc⟩ := h.at (by omega) hi
  exact ⟨b, off, x.1, x.2, e, hb, hx, hc 0 _ rfl, hc 1 _ rfl⟩
/-- A value that stands in memory. -/
structure ValAt (w : World) (b p : Nat) (k n : Int) (s : ByteArray) : Prop where
  lt : b < w.heap.size
  c0 : w.cell? ⟨b, p, none⟩ = some (.int .i64 k)
  c1 : w.cell? ⟨b, p + 1, none⟩ = some (.int .i64 n)
  c2 : w.cell? ⟨b, p + 2, none⟩ = some (.string s)
theorem ValAt.kept {w w' : World} {b p : Nat} {k n : Int} {s : ByteArray} (h : ValAt w b p k n s) (hb : Below w.heap.size w w') : ValAt w' b p k n s := by
  have e := hb.block b h.lt
  exact ⟨Nat.lt_of_lt_of_le h.lt hb.size, (World.cell?_of_block e).trans h.c0, (World.cell?_of_block e).trans h.c1, (World.cell?_of_block e).trans h.c2⟩
theorem RowAt.valAt {w : World} {n c : Nat} {A : Option Addr} {r : List ValV} (h : RowAt w w.heap.size A n c r) {i : Nat} (hi : i < n) :
    ∃ b off v, A = some ⟨b, off, none⟩ ∧ r[i]? = some v ∧ ValAt w b (off + i * 3) v.kind v.num v.str := by
  obtain ⟨b, off, v, e, hb, hv, c0, c1, c2⟩ := RowAt.val h hi
  exact ⟨b, off, v, e, hv, hb, c0, c1, c2⟩
end Go.Proofs.YtobepbpiagclnaaDoor
namespace Go.Proofs.YtobepbpiagclnaaDoor
set_option linter.unusedVariables false
open Go.ChangeShapes Go.WideShapes Go.ChangeAt Go.RowKit

/-- A key that stands in memory. -/
structure KeyAt (w : World) (b p : Nat) (a : Int) (d : Bool) : Prop where
  lt : b < w.heap.size
  c0 : w.cell? ⟨b, p, none⟩ = some (.int .i64 a)
  c1 : w.cell? ⟨b, p + 1, none⟩ = some (.bool d)
theorem KeyAt.kept {w w' : World} {b p : Nat} {a : Int} {d : Bool} (h : KeyAt w b p a d) (hb : Below w.heap.size w w') : KeyAt w' b p a d := by
  have e := hb.block b h.lt
  exact ⟨Nat.lt_of_lt_of_le h.lt hb.size, (World.cell?_of_block e).trans h.c0, (World.cell?_of_block e).trans h.c1⟩
end Go.Proofs.YtobepbpiagclnaaDoor
namespace Go.Proofs.YtobepbpiagclnaaDoor
set_option linter.unusedVariables false
open Go.ChangeShapes Go.WideShapes Go.ChangeAt Go.RowKit

theorem cmpV_self (a : ValV) : cmpV a a = 0 := cmpV_zero.2 rfl
theorem befB_irrefl (r : List ValV) : ∀ ks, befB r r ks = false
  | [] => by
    unfold befB
    rw [cmpR_refl]
    rfl
  | k :: ks => by
    rw [befB, cmpV_self, if_pos rfl]
    split <;> exact befB_irrefl r ks
theorem befB_asymm (r s : List ValV) : ∀ ks, befB r s ks = true → befB s r ks = false
  | [] => by
    unfold befB
    intro h
    have h1 := of_decide_eq_true h
    have := cmpR_neg r s
    exact decide_eq_false (by omega)
  | k :: ks => by
    rw [befB, befB]
    have hn := cmpV_neg (r.getD k.1.toNat valD) (s.getD k.1.toNat valD)
    generalize cmpV (r.getD k.1.toNat valD) (s.getD k.1.toNat valD) = x at *
    rw [hn]
    by_cases h : k.1 < 0 ∨ (r.length : Int) ≤ k.1 ∨ (s.length : Int) ≤ k.1
    · rw [if_pos h, if_pos (show k.1 < 0 ∨ (s.length : Int) ≤ k.1 ∨ (r.length : Int) ≤ k.1 by omega)]
      exact befB_asymm r s ks
    · rw [if_neg h, if_neg (show ¬ (k.1 < 0 ∨ (s.length : Int) ≤ k.1 ∨ (r.length : Int) ≤ k.1) by omega)]
      by_cases hx : x = 0
      · rw [if_pos hx, if_pos (show -x = 0 by omega)]
        exact befB_asymm r s ks
      · rw [if_neg hx, if_neg (show ¬ -x = 0 by omega)]
        by_cases h1 : x < 0
        · rw [decide_eq_true h1, decide_eq_false (by omega)]
          cases k.2 <;> simp
        · rw [decide_eq_false h1, decide_eq_true (by omega)]
          cases k.2 <;> simp
/-- Has a row all columns of the keys? -/
def AllK (ks : List (Int × Bool)) (r : List ValV) : Prop := ∀ k ∈ ks, 0 ≤ k.1 ∧ k.1 < r.length
/-- Keys as a comparison: -1, 0, 1. -/
def cmpK (r s : List ValV) : List (Int × Bool) → Int
  | [] => cmpR r s
  | k :: ks => if cmpV (r.getD k.1.toNat valD) (s.getD k.1.toNat valD) = 0 then cmpK r s ks else if k.2 then -cmpV (r.getD k.1.toNat valD) (s.getD k.1.toNat valD) else cmpV (r.getD k.1.toNat valD) (s.getD k.1.toNat valD)
theorem befB_cmp {r s : List ValV} : ∀ {ks}, AllK ks r → AllK ks s → befB r s ks = decide (cmpK r s ks < 0)
  | [], _, _ => rfl
  | k :: ks, hr, hs => by
    have h1 := hr k (by simp)
    have h2 := hs k (by simp)
    rw [befB, cmpK, if_neg (by omega), befB_cmp (fun x hx => hr x (by simp [hx])) (fun x hx => hs x (by simp [hx]))]
    generalize cmpV (r.getD k.1.toNat valD) (s.getD k.1.toNat valD) = x at *
    by_cases hx : x = 0
    · rw [if_pos hx, if_pos hx]
    · rw [if_neg hx, if_neg hx]
      cases k.2
      · simp
      · by_cases h : x < 0
        · rw [decide_eq_true h, if_pos rfl, decide_eq_false (by omega)]; rfl
        · rw [decide_eq_false h, if_pos rfl, decide_eq_true (by omega)]; rfl
theorem cmpK_neg (r s : List ValV) : ∀ ks, cmpK s r ks = -cmpK r s ks
  | [] => cmpR_neg r s
  | k :: ks => by
    rw [cmpK, cmpK, cmpV_neg (r.getD k.1.toNat valD) (s.getD k.1.toNat valD)]
    generalize cmpV (r.getD k.1.toNat valD) (s.getD k.1.toNat valD) = x
    by_cases hx : x = 0
    · rw [if_pos (by omega), if_pos hx]; exact cmpK_neg r s ks
    · rw [if_neg (by omega), if_neg hx]
      cases k.2 <;> simp
theorem cmpK_zero {r s : List ValV} : ∀ {ks}, cmpK r s ks = 0 ↔ r = s
  | [] => cmpR_zero
  | k :: ks => by
    rw [cmpK]
    by_cases hx : cmpV (r.getD k.1.toNat valD) (s.getD k.1.toNat valD) = 0
    · rw [if_pos hx]; exact cmpK_zero
    · rw [if_neg hx]
      constructor
      · intro h
        exfalso
        cases hk : k.2 with
        | false => rw [hk, if_neg (by simp)] at h; exact hx h
        | true => rw [hk, if_pos rfl] at h; omega
      · rintro rfl
        exact absurd (cmpV_self _) hx
theorem cmpK_trans (r s t : List ValV) : ∀ ks, cmpK r s ks ≤ 0 → cmpK s t ks ≤ 0 → cmpK r t ks ≤ 0
  | [] => cmpR_trans r s t
  | k :: ks => by
    rw [cmpK, cmpK, cmpK]
    have ih := cmpK_trans r s t ks
    generalize r.getD k.1.toNat valD = a at *
    generalize s.getD k.1.toNat valD = b at *
    generalize t.getD k.1.toNat valD = c at *
    have t1 := cmpV_trans a b c
    have t2 := cmpV_level a b c
    have t3 := cmpV_trans c b a
    have t4 := cmpV_level c b a
    have n1 := cmpV_neg a b
    have n2 := cmpV_neg b c
    have n3 := cmpV_neg a c
    have z1 : cmpV a b = 0 → cmpV b c = 0 → cmpV a c = 0 := fun h g => by rw [cmpV_zero] at *; exact h.trans g
    have z2 : cmpV a b = 0 → cmpV a c = cmpV b c := fun h => by rw [cmpV_zero] at h; rw [h]
    have z3 : cmpV b c = 0 → cmpV a c = cmpV a b := fun h => by rw [cmpV_zero] at h; rw [h]
    generalize cmpV a b = x at *
    generalize cmpV b c = y at *
    generalize cmpV a c = z at *
    rw [n1, n2] at t3 t4
    rw [n3] at t3 t4
    by_cases hx : x = 0
    · have e := z2 hx
      by_cases hy : y = 0
      · rw [if_pos hx, if_pos hy, if_pos (z1 hx hy)]
        exact ih
      · rw [if_pos hx, if_neg hy, if_neg (show ¬ z = 0 by omega), e]
        exact fun _ h => h
    · by_cases hy : y = 0
      · have e := z3 hy
        rw [if_neg hx, if_pos hy, if_neg (show ¬ z = 0 by omega), e]
        exact fun h _ => h
      · rw [if_neg hx, if_neg hy]
        cases k.2
        · simp only [Bool.false_eq_true, if_false]
          intro h1 h2
          have hz : z ≠ 0 := fun hz => hx (t2 h1 h2 hz).1
          rw [if_neg hz]
          exact t1 h1 h2
        · simp only [if_true]
          intro h1 h2
          have hz : z ≠ 0 := fun hz => hx (by have := (t4 (by omega) (by omega) (by omega)).2; omega)
          rw [if_neg hz]
          exact t3 (by omega) (by omega)
/-- What the law of one order says. -/
theorem befB_order {a b c : List ValV} {ks : List (Int × Bool)} (ha : AllK ks a) (hb : AllK ks b) (hc : AllK ks c) :
    ((!befB a b ks && !befB b a ks) = decide (cmpR a b = 0)) ∧ (befB a b ks = true → befB b c ks = true → befB a c ks = true) := by
  rw [befB_cmp ha hb, befB_cmp hb ha, befB_cmp hb hc, befB_cmp ha hc]
  have n := cmpK_neg a b ks
  have z := @cmpK_zero a b ks
  constructor
  · by_cases h : a = b
    · rw [decide_eq_true (cmpR_zero.2 h), decide_eq_false (by rw [z.2 h]; omega), decide_eq_false (by rw [n, z.2 h]; omega)]
      rfl
    · have h0 : cmpK a b ks ≠ 0 := fun e => h (z.1 e)
      rw [decide_eq_false (fun e => h (cmpR_zero.1 e))]
      by_cases h1 : cmpK a b ks < 0
      · rw [decide_eq_true h1]; rfl
      · rw [decide_eq_true (show cmpK b a ks < 0 by omega)]; simp
  · intro h1 h2
    have g1 := of_decide_eq_true h1
    have g2 := of_decide_eq_true h2
    have t := cmpK_trans a b c ks (by omega) (by omega)
    refine decide_eq_true ?_
    by_cases e : cmpK a c ks = 0
    · have := cmpK_zero.1 e
      subst this
      have := cmpK_neg a b ks
      omega
    · omega
/-- Two lists, the least first element again and again; of the left one where they are level. -/
def mergeL {α : Type} (lt : α → α → Bool) : List α → List α → List α
  | [], r => r
  | a :: l, [] => a :: l
  | a :: l, b :: r => if lt b a then b :: mergeL lt (a :: l) r else a :: mergeL lt l (b :: r)
theorem mergeL_nil {α : Type} (lt : α → α → Bool) (l : List α) : mergeL lt l [] = l := by cases l <;> rw [mergeL]
theorem mergeL_perm {α : Type} (lt : α → α → Bool) : ∀ l r : List α, (mergeL lt l r).Perm (l ++ r)
  | [], r => by rw [mergeL]; exact List.Perm.refl _
  | a :: l, [] => by rw [mergeL]; simp
  | a :: l, b :: r => by
    rw [mergeL]
    split
    · refine ((mergeL_perm lt (a :: l) r).cons b).trans ?_
      exact (List.perm_middle (l₁ := a :: l) (l₂ := r) (a := b)).symm
    · exact (mergeL_perm lt l (b :: r)).cons a
theorem mergeL_len {α : Type} (lt : α → α → Bool) (l r : List α) : (mergeL lt l r).length = l.length + r.length := by rw [(mergeL_perm lt l r).length_eq, List.length_append]
theorem mergeL_right {α : Type} {lt : α → α → Bool} {a b : α} {l r : List α} (h : lt b a = true) : mergeL lt (a :: l) (b :: r) = b :: mergeL lt (a :: l) r := by rw [mergeL, if_pos h]
theorem mergeL_left {α : Type} {lt : α → α → Bool} {a b : α} {l r : List α} (h : lt b a = false) : mergeL lt (a :: l) (b :: r) = a :: mergeL lt l (b :: r) := by rw [mergeL, if_neg (by rw [h]; simp)]
end Go.Proofs.YtobepbpiagclnaaDoor
namespace Go.Proofs.YtobepbpiagclnaaDoor
set_option linter.unusedVariables false
open Go.ChangeShapes Go.WideShapes Go.ChangeAt Go.RowKit

/-- A row: its head, and its values. -/
abbrev HRow := ListV × List ValV
def hdV (p : HRow) : Value := .slice p.1.A p.1.n p.1.c
def hdC (p : HRow) : List Value := [hdV p]
theorem hdC_flat (ps : List HRow) : (ps.map hdC).flatten = ps.map hdV := by
  induction ps with
  | nil => rfl
  | cons a l ih => rw [List.map_cons, List.flatten_cons, ih]; rfl
structure HsAt (w : World) (A : Option Addr) (n c : Nat) (ps : List HRow) : Prop where
  sl : SlAt hdC 1 w w.heap.size A n c ps
  each : ∀ p ∈ ps, RowAt w w.heap.size p.1.A p.1.n p.1.c p.2
section
variable {w w' : World} {A : Option Addr} {n c : Nat} {ps : List HRow}
theorem HsAt.kept (h : HsAt w A n c ps) (hb : Below w.heap.size w w') : HsAt w' A n c ps := ⟨h.sl.kept hb, fun p hp => (h.each p hp).kept hb⟩
theorem HsAt.cell (h : HsAt w A n c ps) {i : Nat} (hi : i < n) : ∃ b off p, A = some ⟨b, off, none⟩ ∧ b < w.heap.size ∧ ps[i]? = some p ∧ w.cell? ⟨b, off + i, none⟩ = some (hdV p) := by
  obtain ⟨b, off, p, e, hb, hp, hc⟩ := h.sl.at (by omega) hi
  have := hc 0 _ rfl
  rw [Nat.mul_one, Nat.add_zero] at this
  exact ⟨b, off, p, e, hb, hp, this⟩
theorem HsAt.of_nest {rows : List (List ValV)} (h : RowsAt w w.heap.size A n c rows) : ∃ ps, HsAt w A n c ps ∧ ps.map Prod.snd = rows := by
  obtain ⟨ls, hl, hr, he⟩ := h.each
  have hn := h.len
  have e1 : (ls.zip rows).map Prod.snd = rows := List.map_snd_zip (by omega)
  have e2 : (ls.zip rows).map Prod.fst = ls := List.map_fst_zip (by omega)
  refine ⟨ls.zip rows, ⟨⟨by rw [List.length_zip]; omega, h.cap, h.max, h.nil, ?_⟩, fun p hp => ?_⟩, e1⟩
  · have e3 : (ls.zip rows).map hdC = ls.map listVal := by
      rw [← congrArg (List.map listVal) e2, List.map_map]
      rfl
    rw [e3]
    exact hr
  · obtain ⟨i, hi⟩ := List.getElem?_of_mem hp
    have h1 : ls[i]? = some p.1 := by rw [← e2, List.getElem?_map, hi]; rfl
    have h2 : rows[i]? = some p.2 := by rw [← e1, List.getElem?_map, hi]; rfl
    exact he i _ _ h1 h2
theorem HsAt.nest (h : HsAt w A n c ps) : RowsAt w w.heap.size A n c (ps.map Prod.snd) := by
  refine ⟨by rw [List.length_map]; exact h.sl.len, h.sl.cap, h.sl.max, h.sl.nil, ps.map Prod.fst, by rw [List.length_map]; exact h.sl.len, ?_, ?_⟩
  · have e : (ps.map Prod.fst).map listVal = ps.map hdC := by rw [List.map_map]; rfl
    rw [e]
    exact h.sl.recs
  · intro i m r h1 h2
    rw [List.getElem?_map] at h1 h2
    obtain ⟨p, hp, rfl⟩ := Option.map_eq_some_iff.1 h1
    rw [hp] at h2
    injection h2 with h2
    subst h2
    exact h.each p (List.mem_of_getElem? hp)
end
/-- The front of a slice. -/
def fstA (c : Nat) (A : Option Addr) : Option Addr := if c = 0 then A else A.map (·.add 0)
def sndA (c j : Nat) (A : Option Addr) : Option Addr := if c = j then A else A.map (·.add j)
theorem hs_front {w : World} {A : Option Addr} {n c j : Nat} {ps : List HRow} (h : HsAt w A n c ps) (hj : j ≤ n) : HsAt w (fstA c A) j c (ps.take j) := by
  have hl := h.sl.len
  have hc := h.sl.cap
  refine ⟨⟨by rw [List.length_take]; omega, by omega, h.sl.max, fun e => ?_, ⟨?_, fun h0 => ?_⟩⟩, fun p hp => h.each p (List.mem_of_mem_take hp)⟩
  · have : A = none := by
      unfold fstA at e
      split at e
      · exact e
      · exact Option.map_eq_none_iff.1 e
    have := h.sl.nil this
    omega
  · intro xs hx
    obtain ⟨a, _, rfl⟩ := List.mem_map.1 hx
    rfl
  · rw [hdC_flat, List.length_map, List.length_take] at h0
    obtain ⟨b, off, e, hb, hcell⟩ := h.sl.recs.2 (by rw [hdC_flat, List.length_map]; omega)
    subst e
    refine ⟨b, off, ?_, hb, fun i u hu => hcell i u ?_⟩
    · unfold fstA
      rw [if_neg (by omega)]
      show some ((⟨b, off, none⟩ : Addr).add 0) = _
      rw [add_off]
      rfl
    · rw [hdC_flat] at hu ⊢
      rw [List.map_take, List.getElem?_take] at hu
      split at hu
      · exact hu
      · cases hu
theorem hs_back {w : World} {A : Option Addr} {n c j : Nat} {ps : List HRow} (h : HsAt w A n c ps) (hj : j ≤ n) : HsAt w (sndA c j A) (n - j) (c - j) (ps.drop j) := by
  have hl := h.sl.len
  have hc := h.sl.cap
  have hm := h.sl.max
  refine ⟨⟨by rw [List.length_drop]; omega, by omega, by omega, fun e => ?_, ⟨?_, fun h0 => ?_⟩⟩, fun p hp => h.each p (List.mem_of_mem_drop hp)⟩
  · unfold sndA at e
    split at e
    · omega
    · have := h.sl.nil (Option.map_eq_none_iff.1 e)
      omega
  · intro xs hx
    obtain ⟨a, _, rfl⟩ := List.mem_map.1 hx
    rfl
  · rw [hdC_flat, List.length_map, List.length_drop] at h0
    obtain ⟨b, off, e, hb, hcell⟩ := h.sl.recs.2 (by rw [hdC_flat, List.length_map]; omega)
    subst e
    refine ⟨b, off + j, ?_, hb, fun i u hu => ?_⟩
    · unfold sndA
      rw [if_neg (by omega)]
      show some ((⟨b, off, none⟩ : Addr).add j) = _
      rw [add_off]
    · rw [Nat.add_assoc]
      refine hcell (j + i) u ?_
      rw [hdC_flat] at hu ⊢
      rw [List.map_drop, List.getElem?_drop] at hu
      exact hu
theorem back_run {c n : Nat} {A : Option Addr} {j : Nat} (hj : j ≤ n) (W : World) : (Instr.slice 22 (.slice A n c) (some (.int .i64 (j : Int))) none none).run Tryd.prog W = .ok (.slice (sndA c j A) (n - j) (c - j)) W := by
  obtain ⟨i0, hi0, hz0, hz1, hz2⟩ := info_parts row_info
  rw [run_slice_l (P := Tryd.prog) W 22 A n c (by kernel_rfl) .i64 (j : Int) (by omega) (by omega)]
  have he : Tryd.prog.elem 22 = 26 := by kernel_rfl
  rw [he]
  have hs : (sizeOf 26).run Tryd.prog W = .ok 1 W := by simp [sizeOf, typeInfo, hi0, hz1]
  rw [hs]
  show Result.ok (Value.slice (if c = j then A else A.map (·.add (j * 1))) (n - (j : Int).toNat) (c - (j : Int).toNat)) W = _
  rw [Nat.mul_one]
  rfl
theorem front_run {c n : Nat} {A : Option Addr} {k : Nat} (hk : k ≤ c) (W : World) : (Instr.slice 22 (.slice A n c) none (some (.int .i64 (k : Int))) none).run Tryd.prog W = .ok (.slice (fstA c A) k c) W := by
  obtain ⟨i0, hi0, hz0, hz1, hz2⟩ := info_parts row_info
  rw [run_slice_h (P := Tryd.prog) W 22 A n c (by kernel_rfl) .i64 (k : Int) (by omega) (by omega)]
  have he : Tryd.prog.elem 22 = 26 := by kernel_rfl
  rw [he]
  have hs : (sizeOf 26).run Tryd.prog W = .ok 1 W := by simp [sizeOf, typeInfo, hi0, hz1]
  rw [hs]
  show Result.ok (Value.slice (if c = 0 then A else A.map (·.add (0 * 1))) ((k : Int).toNat - 0) (c - 0)) W = _
  rfl
end Go.Proofs.YtobepbpiagclnaaDoor
namespace Go.Proofs.YtobepbpiagclnaaDoor
set_option linter.unusedVariables false
open Go.ChangeShapes Go.WideShapes Go.ChangeAt Go.RowKit

section
variable {w w' : World} {g n c : Nat} {A : Option Addr}
end
end Go.Proofs.YtobepbpiagclnaaDoor
namespace Go.Proofs.YtobepbpiagclnaaDoor
set_option linter.unusedVariables false
open Go.ChangeShapes Go.WideShapes Go.ChangeAt Go.RowKit

def ltK (ks : List (Int × Bool)) (p q : HRow) : Bool := befB p.2 q.2 ks
/-- A row of the call's own, of heads. -/
def OwnH (base : Nat) (w : World) (v : Value) (os : List HRow) : Prop := w.ownsRow base 26 1 v os.length (os.map hdV)
section
variable {base g n c : Nat} {w w' : World} {v : Value} {os : List HRow} {A : Option Addr}
theorem OwnH.kept (h : OwnH base w v os) (hb : Below w.heap.size w w') : OwnH base w' v os := own_below h hb
theorem OwnH.len (h : OwnH base w v os) : lenV v = os.length := by
  rcases h.2 with ⟨hv, h0⟩ | ⟨b, cap, cur, rfl, _⟩
  · subst hv
    exact h0.symm
  · rfl
end
theorem hd_one (os : List HRow) : ∀ u ∈ os.map hdV, u.oneCell' = true := by
  intro u hu
  obtain ⟨p, _, rfl⟩ := List.mem_map.1 hu
  rfl
theorem merge_mem {ks : List (Int × Bool)} {ps qs : List HRow} {p : HRow} (h : p ∈ mergeL (ltK ks) ps qs) : p ∈ ps ∨ p ∈ qs := List.mem_append.1 ((mergeL_perm (ltK ks) ps qs).mem_iff.1 h)
end Go.Proofs.YtobepbpiagclnaaDoor
namespace Go.Proofs.YtobepbpiagclnaaDoor
set_option linter.unusedVariables false
open Go.ChangeShapes Go.WideShapes Go.ChangeAt Go.RowKit

theorem step_app {P : Program} {ops : Array Oper} {o : Oper} {a : Act} {w : World} {K : Act → World → Prop} {Q : Exit → Act → World → Prop} {E : Prop} (hgd : o.guard = none) (s x : Operand) (t : TypeId)
    (ho : o.op = .call { callee := .builtin .append, args := #[s, x], argTypes := #[t, t] })
    (base : Nat) (e : TypeId) (i : TypeInfo) (z : Value) (size bytes : Nat) (ht : P.underlying t = some (.slice e)) (hi : P.info? e = some i) (hz : i.zero = some z)
    (hsize : i.size = size) (hby : i.bytes = bytes) (hzs : z.cells.size = size) (hsz : 0 < size)
    (v : Value) (n : Nat) (xs : List Value) (hs : a.eval s = v) (hown : w.ownsRow base e size v n xs)
    (B : Nat) (A : Option Addr) (m c : Nat) (news : List Value) (hx : a.eval x = .slice A m c) (hl : news.length = m * size) (hr : Cells w B A news) (h1 : ∀ u ∈ news, u.oneCell' = true)
    (h63 : n + m ≤ maxLen) (hbytes : (n + m) * bytes ≤ 140737488355328) (hbase : base ≤ w.heap.size) (hnil : A = none → m = 0)
    (h : ∀ v' w', w'.ownsRow base e size v' (n + m) (xs ++ news) → w.grownBy w' v.ownBlock → (v'.ownBlock = v.ownBlock ∨ v'.ownBlock = some w.heap.size) → K (a.put o.dst v') w') :
    if Region.wanted o (yielded ops a.tmps) = true then Oper.wp P o a w K Q else E := by
  have hw : Region.wanted o (yielded ops a.tmps) = true := by simp [Region.wanted, hgd]
  rw [if_pos hw]
  obtain ⟨v', w', hrun, h2, h3, h4⟩ := run_app (P := P) w base t o.type e i z size bytes ht hi hz hsize hby hzs hsz v n xs hown B A m c news hl hr h1 h63 hbytes hbase hnil
  unfold Oper.wp execOp
  simp only [ho, resolve, invoke, builtin, Sem.run_bind, Sem.run_pure, Result.andThen_ok, List.map_toArray, List.map_cons, List.map_nil, hs, hx, hrun]
  exact h v' w' h2 h3 h4
theorem OwnH.blk {base : Nat} {w : World} {v : Value} {os : List HRow} (h : OwnH base w v os) : ∀ k, v.ownBlock = some k → base ≤ k := by
  intro k hk
  rcases h.2 with ⟨hv, _⟩ | ⟨b, cap, cur, rfl, h1, _⟩
  · subst hv
    cases hk
  · injection hk with hk
    subst hk
    exact h1
theorem OwnH.hs {base : Nat} {w0 w : World} {v : Value} {os : List HRow} (h : OwnH base w v os) (hb : Below w0.heap.size w0 w) (hr : ∀ p ∈ os, RowAt w0 w0.heap.size p.1.A p.1.n p.1.c p.2) : ∃ A c, v = .slice A os.length c ∧ HsAt w A os.length c os := by
  obtain ⟨A, c, e, hs⟩ := sl_of_own (l := os) (f := hdC) (by rw [hdC_flat]; exact h) (fun _ => rfl)
  exact ⟨A, c, e, hs, fun p hp => (hr p hp).kept hb⟩
end Go.Proofs.YtobepbpiagclnaaDoor
namespace Go.Proofs.YtobepbpiagclnaaDoor
set_option linter.unusedVariables false
open Go.ChangeShapes Go.WideShapes Go.ChangeAt Go.RowKit

/-- Sorting by halves. -/
def sortN {α : Type} (lt : α → α → Bool) : Nat → List α → List α
  | 0, l => l
  | f + 1, l => if l.length < 2 then l else mergeL lt (sortN lt f (l.take (l.length / 2))) (sortN lt f (l.drop (l.length / 2)))
theorem sortN_perm {α : Type} (lt : α → α → Bool) : ∀ (f : Nat) (l : List α), (sortN lt f l).Perm l
  | 0, l => List.Perm.refl _
  | f + 1, l => by
    rw [sortN]
    split
    · exact List.Perm.refl _
    · refine (mergeL_perm lt _ _).trans ?_
      have h := (sortN_perm lt f (l.take (l.length / 2))).append (sortN_perm lt f (l.drop (l.length / 2)))
      rwa [List.take_append_drop] at h
theorem sortN_len {α : Type} (lt : α → α → Bool) (f : Nat) (l : List α) : (sortN lt f l).length = l.length := (sortN_perm lt f l).length_eq
theorem mergeL_map {α β : Type} {lt : α → α → Bool} {lu : β → β → Bool} (g : α → β) (h : ∀ a b, lt a b = lu (g a) (g b)) : ∀ l r : List α, (mergeL lt l r).map g = mergeL lu (l.map g) (r.map g)
  | [], r => by rw [mergeL, List.map_nil, mergeL]
  | a :: l, [] => by rw [mergeL_nil, List.map_nil, mergeL_nil]
  | a :: l, b :: r => by
    rw [List.map_cons, List.map_cons]
    cases hx : lt b a with
    | true => rw [mergeL_right hx, mergeL_right (by rw [← h]; exact hx), List.map_cons, mergeL_map g h (a :: l) r, List.map_cons]
    | false => rw [mergeL_left hx, mergeL_left (by rw [← h]; exact hx), List.map_cons, mergeL_map g h l (b :: r), List.map_cons]
theorem sortN_map {α β : Type} {lt : α → α → Bool} {lu : β → β → Bool} (g : α → β) (h : ∀ a b, lt a b = lu (g a) (g b)) : ∀ (f : Nat) (l : List α), (sortN lt f l).map g = sortN lu f (l.map g)
  | 0, l => rfl
  | f + 1, l => by
    rw [sortN, sortN, List.length_map]
    split
    · rfl
    · rw [mergeL_map g h, sortN_map g h f, sortN_map g h f, List.map_take, List.map_drop]
end Go.Proofs.YtobepbpiagclnaaDoor
namespace Go.Proofs.YtobepbpiagclnaaDoor
set_option linter.unusedVariables false
open Go.ChangeShapes Go.WideShapes Go.ChangeAt Go.RowKit

theorem rowsS_c (A : Option Addr) (n c : Nat) (rows : List (List ValV)) (w : World) (h : RowsAt w w.heap.size A n c rows) (hn : n ≤ 1048576) (hr : ∀ r ∈ rows, r.length ≤ 1048576) :
    Calls Tryd.prog 12 #[.slice A n c] w fun e w' => GivesNest valCells 3 w rows e w' := by
  have Q := hide (each_c A n c rows w h hn hr)
  clear h hn hr
  go_enter Tryd.func12, Tryd.ntmps12
  go_wp2_with fail
  refine Q.out.mono ?_
  rintro e w1 ⟨⟨X, cx, rfl, hX, hb, hf⟩, _⟩
  have HX := hide hX
  clear hX
  go_wp2_with fail
  go_ret
  exact ⟨X, cx, rfl, HX.out, hb, hf⟩
/-- Rows, sorted by keys. -/
def sortR (ks : List (Int × Bool)) (rows : List (List ValV)) : List (List ValV) := sortN (fun r s => befB r s ks) rows.length rows
theorem sortR_perm (ks : List (Int × Bool)) (rows : List (List ValV)) : (sortR ks rows).Perm rows := sortN_perm _ _ _
theorem sortR_len (ks : List (Int × Bool)) (rows : List (List ValV)) : (sortR ks rows).length = rows.length := (sortR_perm ks rows).length_eq
end Go.Proofs.YtobepbpiagclnaaDoor
namespace Go.Proofs.YtobepbpiagclnaaDoor
set_option linter.unusedVariables false
open Go.ChangeShapes Go.WideShapes Go.ChangeAt Go.RowKit

theorem rows_info : (Tryd.prog.info? 22).map (fun i => (i.zero, i.size, i.bytes)) = some (some (.slice none 0 0), 1, 24) := by kernel_rfl
end Go.Proofs.YtobepbpiagclnaaDoor
namespace Go.Proofs.YtobepbpiagclnaaDoor
set_option linter.unusedVariables false
open Go.ChangeShapes Go.WideShapes Go.ChangeAt Go.RowKit

/-- A run: its head, and its rows. -/
abbrev GRun := ListV × List HRow
def gdV (p : GRun) : Value := .slice p.1.A p.1.n p.1.c
def gdC (p : GRun) : List Value := [gdV p]
theorem gdC_flat (ps : List GRun) : (ps.map gdC).flatten = ps.map gdV := by
  induction ps with
  | nil => rfl
  | cons a l ih => rw [List.map_cons, List.flatten_cons, ih]; rfl
structure GsAt (w : World) (A : Option Addr) (n c : Nat) (gs : List GRun) : Prop where
  sl : SlAt gdC 1 w w.heap.size A n c gs
  each : ∀ g ∈ gs, HsAt w g.1.A g.1.n g.1.c g.2
section
variable {w w' : World} {A : Option Addr} {n c : Nat} {gs : List GRun}
theorem GsAt.kept (h : GsAt w A n c gs) (hb : Below w.heap.size w w') : GsAt w' A n c gs := ⟨h.sl.kept hb, fun p hp => (h.each p hp).kept hb⟩
theorem GsAt.cell (h : GsAt w A n c gs) {i : Nat} (hi : i < n) : ∃ b off p, A = some ⟨b, off, none⟩ ∧ b < w.heap.size ∧ gs[i]? = some p ∧ w.cell? ⟨b, off + i, none⟩ = some (gdV p) := by
  obtain ⟨b, off, p, e, hb, hp, hc⟩ := h.sl.at (by omega) hi
  have := hc 0 _ rfl
  rw [Nat.mul_one, Nat.add_zero] at this
  exact ⟨b, off, p, e, hb, hp, this⟩
theorem gs_front {j : Nat} (h : GsAt w A n c gs) (hj : j ≤ n) : GsAt w (fstA c A) j c (gs.take j) := by
  have hl := h.sl.len
  have hc := h.sl.cap
  refine ⟨⟨by rw [List.length_take]; omega, by omega, h.sl.max, fun e => ?_, ⟨?_, fun h0 => ?_⟩⟩, fun p hp => h.each p (List.mem_of_mem_take hp)⟩
  · have : A = none := by
      unfold fstA at e
      split at e
      · exact e
      · exact Option.map_eq_none_iff.1 e
    have := h.sl.nil this
    omega
  · intro xs hx
    obtain ⟨a, _, rfl⟩ := List.mem_map.1 hx
    rfl
  · rw [gdC_flat, List.length_map, List.length_take] at h0
    obtain ⟨b, off, e, hb, hcell⟩ := h.sl.recs.2 (by rw [gdC_flat, List.length_map]; omega)
    subst e
    refine ⟨b, off, ?_, hb, fun i u hu => hcell i u ?_⟩
    · unfold fstA
      rw [if_neg (by omega)]
      show some ((⟨b, off, none⟩ : Addr).add 0) = _
      rw [add_off]
      rfl
    · rw [gdC_flat] at hu ⊢
      rw [List.map_take, List.getElem?_take] at hu
      split at hu
      · exact hu
      · cases hu
theorem gs_back {j : Nat} (h : GsAt w A n c gs) (hj : j ≤ n) : GsAt w (sndA c j A) (n - j) (c - j) (gs.drop j) := by
  have hl := h.sl.len
  have hc := h.sl.cap
  have hm := h.sl.max
  refine ⟨⟨by rw [List.length_drop]; omega, by omega, by omega, fun e => ?_, ⟨?_, fun h0 => ?_⟩⟩, fun p hp => h.each p (List.mem_of_mem_drop hp)⟩
  · unfold sndA at e
    split at e
    · omega
    · have := h.sl.nil (Option.map_eq_none_iff.1 e)
      omega
  · intro xs hx
    obtain ⟨a, _, rfl⟩ := List.mem_map.1 hx
    rfl
  · rw [gdC_flat, List.length_map, List.length_drop] at h0
    obtain ⟨b, off, e, hb, hcell⟩ := h.sl.recs.2 (by rw [gdC_flat, List.length_map]; omega)
    subst e
    refine ⟨b, off + j, ?_, hb, fun i u hu => ?_⟩
    · unfold sndA
      rw [if_neg (by omega)]
      show some ((⟨b, off, none⟩ : Addr).add j) = _
      rw [add_off]
    · rw [Nat.add_assoc]
      refine hcell (j + i) u ?_
      rw [gdC_flat] at hu ⊢
      rw [List.map_drop, List.getElem?_drop] at hu
      exact hu
end
/-- Merging by halves. -/
def mergeN {α : Type} (lt : α → α → Bool) : Nat → List (List α) → List α
  | 0, _ => []
  | f + 1, L => if L.length = 0 then [] else if L.length = 1 then L.flatten else mergeL lt (mergeN lt f (L.take (L.length / 2))) (mergeN lt f (L.drop (L.length / 2)))
def sumL {α : Type} (L : List (List α)) : Nat := L.flatten.length
theorem sumL_cut {α : Type} (L : List (List α)) (j : Nat) : sumL (L.take j) + sumL (L.drop j) = sumL L := by
  unfold sumL
  rw [← List.length_append, ← List.flatten_append, List.take_append_drop]
theorem mergeN_len {α : Type} (lt : α → α → Bool) : ∀ (f : Nat) (L : List (List α)), L.length < f → (mergeN lt f L).length = sumL L
  | 0, L, h => absurd h (by omega)
  | f + 1, L, h => by
    rw [mergeN]
    by_cases h0 : L.length = 0
    · rw [if_pos h0, List.eq_nil_of_length_eq_zero h0]; rfl
    · rw [if_neg h0]
      by_cases h1 : L.length = 1
      · rw [if_pos h1]; rfl
      · rw [if_neg h1, mergeL_len, mergeN_len lt f _ (by rw [List.length_take]; omega), mergeN_len lt f _ (by rw [List.length_drop]; omega), sumL_cut]
end Go.Proofs.YtobepbpiagclnaaDoor
namespace Go.Proofs.YtobepbpiagclnaaDoor
set_option linter.unusedVariables false
open Go.ChangeShapes Go.WideShapes Go.ChangeAt Go.RowKit

theorem HsAt.empty (w : World) : HsAt w none 0 0 [] := ⟨SlAt.empty _ _ _ _, by intro p hp; cases hp⟩
end Go.Proofs.YtobepbpiagclnaaDoor
namespace Go.Proofs.YtobepbpiagclnaaDoor
set_option linter.unusedVariables false
open Go.ChangeShapes Go.WideShapes Go.ChangeAt Go.RowKit

theorem mergeN_map {α β : Type} {lt : α → α → Bool} {lu : β → β → Bool} (g : α → β) (h : ∀ a b, lt a b = lu (g a) (g b)) : ∀ (f : Nat) (L : List (List α)), (mergeN lt f L).map g = mergeN lu f (L.map (List.map g))
  | 0, L => rfl
  | f + 1, L => by
    rw [mergeN, mergeN, List.length_map]
    split
    · rfl
    · split
      · rw [List.map_flatten]
      · rw [mergeL_map g h, mergeN_map g h f, mergeN_map g h f, List.map_take, List.map_drop]
/-- Runs, merged by keys. -/
def mergeR (ks : List (Int × Bool)) (runs : List (List (List ValV))) : List (List ValV) := mergeN (fun r s => befB r s ks) (runs.length + 1) runs
/-- The rows of runs. -/
def rowsG (gs : List GRun) : List (List (List ValV)) := gs.map fun g => g.2.map Prod.snd
theorem rowsG_eq (gs : List GRun) : (gs.map Prod.snd).map (List.map Prod.snd) = rowsG gs := by
  unfold rowsG
  rw [List.map_map]
  rfl
theorem sumL_rows (gs : List GRun) : sumL (gs.map Prod.snd) = sumL (rowsG gs) := by
  rw [← rowsG_eq]
  unfold sumL
  rw [← List.map_flatten, List.length_map]
end Go.Proofs.YtobepbpiagclnaaDoor
namespace Go.Proofs.YtobepbpiagclnaaDoor
set_option linter.unusedVariables false
open Go.ChangeShapes Go.WideShapes Go.ChangeAt Go.RowKit

def GivesSmall (w : World) (n : Nat) (ps : List HRow) (e : Ending) (w' : World) : Prop := ∃ q : Bool, e = .returned (.bool q) ∧ (q = true → n ≤ 60 ∧ ∀ p ∈ ps, p.2.length ≤ 40) ∧ Below w.heap.size w w'
end Go.Proofs.YtobepbpiagclnaaDoor
namespace Go.Proofs.YtobepbpiagclnaaDoor
set_option linter.unusedVariables false
open Go.ChangeShapes Go.WideShapes Go.ChangeAt Go.RowKit

/-- A head that stands in memory. -/
structure HeadAt (w : World) (b p : Nat) (A : Option Addr) (n c : Nat) : Prop where
  lt : b < w.heap.size
  c0 : w.cell? ⟨b, p, none⟩ = some (.slice A n c)
theorem HeadAt.kept {w w' : World} {b p n c : Nat} {A : Option Addr} (h : HeadAt w b p A n c) (hb : Below w.heap.size w w') : HeadAt w' b p A n c :=
  ⟨Nat.lt_of_lt_of_le h.lt hb.size, (World.cell?_of_block (hb.block b h.lt)).trans h.c0⟩
theorem HsAt.head {w : World} {A : Option Addr} {n c : Nat} {ps : List HRow} (h : HsAt w A n c ps) {i : Nat} (hi : i < n) : ∃ b off p, A = some ⟨b, off, none⟩ ∧ ps[i]? = some p ∧ HeadAt w b (off + i) p.1.A p.1.n p.1.c := by
  obtain ⟨b, off, p, e, hb, hp, hc⟩ := h.cell hi
  exact ⟨b, off, p, e, hp, hb, hc⟩
def sndL (ps : List HRow) : List (List ValV) := ps.map Prod.snd
def GivesList (w : World) (ps qs : List HRow) (e : Ending) (w' : World) : Prop := ∃ q : Bool, e = .returned (.bool q) ∧ (q = true ↔ sndL ps = sndL qs) ∧ Below w.heap.size w w'
set_option maxRecDepth 100000 in
set_option maxHeartbeats 2000000 in
theorem List_c (A A2 : Option Addr) (n c n2 c2 : Nat) (ps qs : List HRow) (w : World) (h : HsAt w A n c ps) (h2 : HsAt w A2 n2 c2 qs) (g : ∀ p ∈ ps, StrsOk p.2) (g2 : ∀ p ∈ qs, StrsOk p.2) :
    Calls Tryd.prog 8 #[.slice A n c, .slice A2 n2 c2] w (GivesList w ps qs) := by
  have HP := hide h
  have HQ := hide h2
  have HG := hide g
  have HG2 := hide g2
  have hl := h.sl.len
  have hl2 := h2.sl.len
  have m1 := Nat.le_trans h.sl.cap h.sl.max
  have m2 := Nat.le_trans h2.sl.cap h2.sl.max
  unfold maxLen at m1 m2
  clear h h2 g g2
  go_enter Tryd.func8, Tryd.ntmps8
  go_wp2_with fail
  go_loopw [5] (fun i wr => ∃ k : Nat, k ≤ n ∧ k ≤ n2 ∧ i = .int .i64 k ∧ Hid (sndL (ps.take k) = sndL (qs.take k)) ∧ Hid (Below w.heap.size w wr)) (fun i _ => n - (intOf i).toNat)
  case atStart => exact ⟨0, Nat.zero_le _, Nat.zero_le _, rfl, rfl, Below.refl _ _⟩
  case round =>
    obtain ⟨k, hkn, hkn2, rfl, HE, HB⟩ := hrel
    by_cases hlt : k < n
    · have hlti : (k : Int) < n := by omega
      by_cases hlt2 : k < n2
      · have hlti2 : (k : Int) < n2 := by omega
        have hwk : IntKind.i64.wrap ((k : Int) + 1) = (k : Int) + 1 := IntWalk.i64_in _ (by omega)
        have HPk := hide (HP.out.kept HB.out)
        have HQk := hide (HQ.out.kept HB.out)
        obtain ⟨b, off, p, rfl, hp, Ha⟩ := HPk.out.head hlt
        obtain ⟨b2, off2, q, rfl, hq, Hb⟩ := HQk.out.head hlt2
        have Q := hide (fun (W : World) (hW : Below w.heap.size w W) => rorders_c p.1.A q.1.A p.1.n p.1.c q.1.n q.1.c p.2 q.2 W ((HP.out.kept hW).each p (List.mem_of_getElem? hp)) ((HQ.out.kept hW).each q (List.mem_of_getElem? hq)) (HG.out p (List.mem_of_getElem? hp)) (HG2.out q (List.mem_of_getElem? hq)))
        have HN : Hid (cmpR p.2 q.2 = 0 → sndL (ps.take (k + 1)) = sndL (qs.take (k + 1))) := fun hz => by
          have h1 := HE.out
          unfold sndL at *
          rw [take_at hp, take_at hq, List.map_append, List.map_append, h1, List.map_cons, List.map_cons, cmpR_zero.1 hz, List.map_nil]
        have HX : Hid (cmpR p.2 q.2 ≠ 0 → sndL ps ≠ sndL qs) := fun hz he => by
          apply hz
          unfold sndL at he
          have e1 : (ps.map Prod.snd)[k]? = some p.2 := by rw [List.getElem?_map, hp]; rfl
          have e2 : (qs.map Prod.snd)[k]? = some q.2 := by rw [List.getElem?_map, hq]; rfl
          rw [he, e2] at e1
          injection e1 with e1
          rw [e1]
          exact cmpR_refl _
        clear HE hp hq HPk HQk
        generalize cmpR p.2 q.2 = x at *
        generalize p.1.A = pA at *
        generalize p.1.n = pn at *
        generalize p.1.c = pc at *
        generalize q.1.A = qA at *
        generalize q.1.n = qn at *
        generalize q.1.c = qc at *
        replace Ha := hide Ha
        replace Hb := hide Hb
        go_upto_region 4 with (fail)
        refine wp_region_held_drew (S := (fun w' => HeadAt w' b (off + k) pA pn pc ∧ HeadAt w' b2 (off2 + k) qA qn qc ∧ Below w.heap.size w w')) (by kernel_rfl) (⟨Ha.out.kept (Below.refl _ _).drew, Hb.out.kept (Below.refl _ _).drew, HB.out.drew⟩) (fun hHeld => ?_)
        first | (refine wpAnyH_take (i := 0) (v := ?_) nth0 (by kernel_rfl) (by kernel_rfl) (by kernel_rfl) (fun _ _ _ h => h) (Or.inl ⟨by rfl, ?_⟩) hHeld ?_; rotate_left; focus (intro wS hSw; (obtain ⟨_, a_0⟩ := hSw.1; obtain ⟨_, b_0⟩ := hSw.2.1); go_simp; try with_reducible rfl; done)) | (refine wpAnyH_take (i := 0) (v := undef) nth0 (by kernel_rfl) (by kernel_rfl) (by kernel_rfl) (fun _ _ _ h => h) (Or.inr ⟨by rfl, rfl⟩) hHeld ?_)
        (try simp only [Act.put]); (try simp only [List.setIfInBounds_toArray]); (try simp only [List.set_cons_succ]); (try simp only [List.set_cons_zero])
        first | (refine wpAnyH_take (i := 1) (v := ?_) nth1 (by kernel_rfl) (by kernel_rfl) (by kernel_rfl) (fun _ _ _ h => h) (Or.inl ⟨by rfl, ?_⟩) hHeld ?_; rotate_left; focus (intro wS hSw; (obtain ⟨_, a_0⟩ := hSw.1; obtain ⟨_, b_0⟩ := hSw.2.1); go_simp; try with_reducible rfl; done)) | (refine wpAnyH_take (i := 1) (v := undef) nth1 (by kernel_rfl) (by kernel_rfl) (by kernel_rfl) (fun _ _ _ h => h) (Or.inr ⟨by rfl, rfl⟩) hHeld ?_)
        (try simp only [Act.put]); (try simp only [List.setIfInBounds_toArray]); (try simp only [List.set_cons_succ]); (try simp only [List.set_cons_zero])
        first | (refine wpAnyH_take (i := 2) (v := ?_) nth2 (by kernel_rfl) (by kernel_rfl) (by kernel_rfl) (fun _ _ _ h => h) (Or.inl ⟨by rfl, ?_⟩) hHeld ?_; rotate_left; focus (intro wS hSw; (obtain ⟨_, a_0⟩ := hSw.1; obtain ⟨_, b_0⟩ := hSw.2.1); go_simp; try with_reducible rfl; done)) | (refine wpAnyH_take (i := 2) (v := undef) nth2 (by kernel_rfl) (by kernel_rfl) (by kernel_rfl) (fun _ _ _ h => h) (Or.inr ⟨by rfl, rfl⟩) hHeld ?_)
        (try simp only [Act.put]); (try simp only [List.setIfInBounds_toArray]); (try simp only [List.set_cons_succ]); (try simp only [List.set_cons_zero])
        first | (refine wpAnyH_take (i := 3) (v := ?_) nth3 (by kernel_rfl) (by kernel_rfl) (by kernel_rfl) (fun _ _ _ h => h) (Or.inl ⟨by rfl, ?_⟩) hHeld ?_; rotate_left; focus (intro wS hSw; (obtain ⟨_, a_0⟩ := hSw.1; obtain ⟨_, b_0⟩ := hSw.2.1); go_simp; try with_reducible rfl; done)) | (refine wpAnyH_take (i := 3) (v := undef) nth3 (by kernel_rfl) (by kernel_rfl) (by kernel_rfl) (fun _ _ _ h => h) (Or.inr ⟨by rfl, rfl⟩) hHeld ?_)
        (try simp only [Act.put]); (try simp only [List.setIfInBounds_toArray]); (try simp only [List.set_cons_succ]); (try simp only [List.set_cons_zero])
        first | (refine wpAnyH_take (i := 4) (v := ?_) nth4 (by kernel_rfl) (by kernel_rfl) (by kernel_rfl) (fun _ _ _ h => h) (Or.inl ⟨by rfl, ?_⟩) hHeld ?_; rotate_left; focus (intro wS hSw; (obtain ⟨_, a_0⟩ := hSw.1; obtain ⟨_, b_0⟩ := hSw.2.1); go_simp; try with_reducible rfl; done)) | (refine wpAnyH_take (i := 4) (v := undef) nth4 (by kernel_rfl) (by kernel_rfl) (by kernel_rfl) (fun _ _ _ h => h) (Or.inr ⟨by rfl, rfl⟩) hHeld ?_)
        (try simp only [Act.put]); (try simp only [List.setIfInBounds_toArray]); (try simp only [List.set_cons_succ]); (try simp only [List.set_cons_zero])
        first | (refine wpAnyH_take (i := 5) (v := ?_) nth5 (by kernel_rfl) (by kernel_rfl) (by kernel_rfl) (fun _ _ _ h => h) (Or.inl ⟨by rfl, ?_⟩) hHeld ?_; rotate_left; focus (intro wS hSw; (obtain ⟨_, a_0⟩ := hSw.1; obtain ⟨_, b_0⟩ := hSw.2.1); go_simp; try with_reducible rfl; done)) | (refine wpAnyH_take (i := 5) (v := undef) nth5 (by kernel_rfl) (by kernel_rfl) (by kernel_rfl) (fun _ _ _ h => h) (Or.inr ⟨by rfl, rfl⟩) hHeld ?_)
        (try simp only [Act.put]); (try simp only [List.setIfInBounds_toArray]); (try simp only [List.set_cons_succ]); (try simp only [List.set_cons_zero])
        first | (refine wpAnyH_take (i := 6) (v := ?_) nth6 (by kernel_rfl) (by kernel_rfl) (by kernel_rfl) (fun _ _ _ h => h) (Or.inl ⟨by rfl, ?_⟩) hHeld ?_; rotate_left; focus (intro wS hSw; (obtain ⟨_, a_0⟩ := hSw.1; obtain ⟨_, b_0⟩ := hSw.2.1); go_simp; try with_reducible rfl; done)) | (refine wpAnyH_take (i := 6) (v := undef) nth6 (by kernel_rfl) (by kernel_rfl) (by kernel_rfl) (fun _ _ _ h => h) (Or.inr ⟨by rfl, rfl⟩) hHeld ?_)
        (try simp only [Act.put]); (try simp only [List.setIfInBounds_toArray]); (try simp only [List.set_cons_succ]); (try simp only [List.set_cons_zero])
        first | (refine wpAnyH_take (i := 7) (v := ?_) nth7 (by kernel_rfl) (by kernel_rfl) (by kernel_rfl) (fun _ _ _ h => h) (Or.inl ⟨by rfl, ?_⟩) hHeld ?_; rotate_left; focus (intro wS hSw; (obtain ⟨_, a_0⟩ := hSw.1; obtain ⟨_, b_0⟩ := hSw.2.1); go_simp; try with_reducible rfl; done)) | (refine wpAnyH_take (i := 7) (v := undef) nth7 (by kernel_rfl) (by kernel_rfl) (by kernel_rfl) (fun _ _ _ h => h) (Or.inr ⟨by rfl, rfl⟩) hHeld ?_)
        (try simp only [Act.put]); (try simp only [List.setIfInBounds_toArray]); (try simp only [List.set_cons_succ]); (try simp only [List.set_cons_zero])
        refine wpAnyH_ready (rs := [8]) (by kernel_rfl) (by simp) ?_
        refine AllReadyH.cons nth8 (fun K hK => ?_) AllReadyH.nil
        go_simp
        (go_at_call 22; refine (Q.out _ hHeld.2.2).mono ?_; rintro e w' ⟨rfl, hb⟩)
        refine hK.out _ _ (⟨hHeld.1.kept hb, hHeld.2.1.kept hb, Bel.then hHeld.2.2 hb⟩) (fun hHeld => ?_)
        clear hK K
        (try simp only [Act.put]); (try simp only [List.setIfInBounds_toArray]); (try simp only [List.set_cons_succ]); (try simp only [List.set_cons_zero])
        first | (refine wpAnyH_take (i := 9) (v := ?_) nth9 (by kernel_rfl) (by kernel_rfl) (by kernel_rfl) (fun _ _ _ h => h) (Or.inl ⟨by rfl, ?_⟩) hHeld ?_; rotate_left; focus (intro wS hSw; (obtain ⟨_, a_0⟩ := hSw.1; obtain ⟨_, b_0⟩ := hSw.2.1); go_simp; try with_reducible rfl; done)) | (refine wpAnyH_take (i := 9) (v := undef) nth9 (by kernel_rfl) (by kernel_rfl) (by kernel_rfl) (fun _ _ _ h => h) (Or.inr ⟨by rfl, rfl⟩) hHeld ?_)
        (try simp only [Act.put]); (try simp only [List.setIfInBounds_toArray]); (try simp only [List.set_cons_succ]); (try simp only [List.set_cons_zero])
        refine wpAnyH_done (by kernel_rfl) ?_ _
        replace HB := hide hHeld.2.2
        clear hb hHeld Ha Hb Q
        by_cases hx : x = 0
        · have HY := hide (HN.out hx)
          have f1 : (x != 0) = false := by simp [hx]
          clear hx HN HX
          go_wp2_with fail
          go_roundw
          case rel => exact ⟨k + 1, by omega, by omega, by go_num, HY, HB⟩
          case measure => simp [intOf]; omega
        · have HY := hide (HX.out hx)
          have f1 : (x != 0) = true := by simp [hx]
          clear hx HN HX
          go_wp2_with fail
          go_ret
          exact ⟨false, rfl, ⟨fun e => (by cases e), fun e => absurd e HY.out⟩, HB.out⟩
      · have hlti2 : ¬ (k : Int) < n2 := by omega
        have hz : ((n : Int) == (n2 : Int)) = false := by rw [beq_eq_false_iff_ne]; omega
        have HY : Hid (sndL ps ≠ sndL qs) := fun e => by
          have := congrArg List.length e
          unfold sndL at this
          rw [List.length_map, List.length_map] at this
          omega
        clear HE
        go_wp2_with fail
        go_ret
        exact ⟨false, rfl, ⟨fun e => (by cases e), fun e => absurd e HY.out⟩, HB.out⟩
    · have hlti : ¬ (k : Int) < n := by omega
      obtain rfl : k = n := by omega
      by_cases he : k = n2
      · have HY : Hid (sndL ps = sndL qs) := by
          have := HE.out
          rw [List.take_of_length_le (by omega), List.take_of_length_le (by omega)] at this
          exact this
        have hz : ((k : Int) == (n2 : Int)) = true := by rw [beq_iff_eq]; omega
        clear HE he
        go_wp2_with fail
        go_ret
        exact ⟨true, rfl, ⟨fun _ => HY.out, fun _ => rfl⟩, HB.out⟩
      · have HY : Hid (sndL ps ≠ sndL qs) := fun e => by
          have := congrArg List.length e
          unfold sndL at this
          rw [List.length_map, List.length_map] at this
          omega
        have hz : ((k : Int) == (n2 : Int)) = false := by rw [beq_eq_false_iff_ne]; omega
        clear HE he
        go_wp2_with fail
        go_ret
        exact ⟨false, rfl, ⟨fun e => (by cases e), fun e => absurd e HY.out⟩, HB.out⟩
end Go.Proofs.YtobepbpiagclnaaDoor
namespace Go.Proofs.YtobepbpiagclnaaDoor
set_option linter.unusedVariables false
open Go.ChangeShapes Go.WideShapes Go.ChangeAt Go.RowKit

theorem value_info' : (Tryd.prog.info? 33).map (fun i => (i.zero, i.size, i.bytes)) = some (some (.agg #[.int .i64 0, .int .i64 0, .string .empty]), 3, 32) := by kernel_rfl
theorem cells_one (r : List ValV) : ∀ u ∈ (r.map valCells).flatten, u.oneCell' = true := by
  intro u hu
  obtain ⟨xs, hx, hu⟩ := List.mem_flatten.1 hu
  obtain ⟨v, _, rfl⟩ := List.mem_map.1 hx
  simp only [valCells, List.mem_cons, List.not_mem_nil, or_false] at hu
  rcases hu with rfl | rfl | rfl <;> rfl
set_option maxRecDepth 100000 in
theorem Copy_c (A : Option Addr) (n c : Nat) (r : List ValV) (w : World) (h : RowAt w w.heap.size A n c r) (hn : n ≤ 1048576) :
    Calls Tryd.prog 24 #[.slice A n c] w fun e w' => ∃ X cx, e = .returned (.slice X n cx) ∧ RowAt w' w'.heap.size X n cx r ∧ Below w.heap.size w w' := by
  obtain ⟨i0, hi0, hz0, hz1, hz2⟩ := info_parts value_info'
  have hl := h.len
  have H := hide (h.kept (Bel.one w (.cells #[] 33)))
  have HO := hide (World.ownsRow_lit (base := w.heap.size) (e := 33) (size := 3) w #[] 0 (Nat.le_refl _) (by simp [maxLen]) rfl)
  have HB := hide (Bel.one w (.cells #[] 33))
  clear h
  go_enter Tryd.func24, Tryd.ntmps24
  go_wp2_with (at_builtin; refine wpList_app rfl (.tmp 3) (.tmp 4) 26 rfl w.heap.size 33 i0 _ 3 32 Tryd.underlying26 hi0 hz0 hz1 hz2 rfl (by omega) _ 0 [] rfl HO.out _ A n c (r.map valCells).flatten rfl (by rw [flat_len _ 3 (H.out.recs.1), List.length_map, H.out.len]) H.out.recs.2 (cells_one _) (by unfold maxLen; omega) (by omega) HB.out.size H.out.nil ?_; intro v1 w2 hown hgr _; have HOn := hide hown; have HBn := hide (own_grown HB.out hgr (by intro k hk; have hk2 : w.heap.size = k := Option.some.inj hk; omega)); clear hown hgr HO HB H)
  have ho := HOn.out
  rw [Nat.zero_add, List.nil_append] at ho
  obtain ⟨X, cx, rfl, hX⟩ := sl_of_own (l := r) (f := valCells) (by rw [hl]; exact ho) valCells_len
  rw [hl] at hX ⊢
  have HX := hide hX
  clear ho hX HOn
  go_wp2_with fail
  go_ret
  exact ⟨X, cx, rfl, HX.out, HBn.out⟩
end Go.Proofs.YtobepbpiagclnaaDoor
namespace Go.Proofs.YtobepbpiagclnaaDoor
set_option linter.unusedVariables false
open Go.ChangeShapes Go.WideShapes Go.ChangeAt Go.RowKit

/-- Rising by keys: none stands ahead of one before it. -/
def RiseK (ks : List (Int × Bool)) (l : List (List ValV)) : Prop := l.Pairwise fun a b => cmpK a b ks ≤ 0
theorem mergeL_rise {ks : List (Int × Bool)} : ∀ {l r : List (List ValV)}, (∀ a ∈ l, AllK ks a) → (∀ a ∈ r, AllK ks a) → RiseK ks l → RiseK ks r → RiseK ks (mergeL (fun r s => befB r s ks) l r)
  | [], r, _, _, _, hr => by rw [mergeL]; exact hr
  | a :: l, [], _, _, hl, _ => by rw [mergeL_nil]; exact hl
  | a :: l, b :: r, kl, kr, hl, hr => by
    have ha := kl a (by simp)
    have hb := kr b (by simp)
    have pl := List.pairwise_cons.1 hl
    have pr := List.pairwise_cons.1 hr
    have hx : befB b a ks = decide (cmpK b a ks < 0) := befB_cmp hb ha
    by_cases h : cmpK b a ks < 0
    · rw [mergeL_right (lt := fun r s => befB r s ks) (by show befB b a ks = true; rw [hx]; exact decide_eq_true h)]
      refine List.pairwise_cons.2 ⟨fun c hc => ?_, mergeL_rise kl (fun x hx => kr x (by simp [hx])) hl pr.2⟩
      rcases List.mem_append.1 ((mergeL_perm _ _ _).mem_iff.1 hc) with hc | hc
      · rcases List.mem_cons.1 hc with rfl | hc
        · omega
        · exact cmpK_trans b a c ks (by omega) (pl.1 c hc)
      · exact pr.1 c hc
    · have hn := cmpK_neg a b ks
      rw [mergeL_left (lt := fun r s => befB r s ks) (by show befB b a ks = false; rw [hx]; exact decide_eq_false h)]
      refine List.pairwise_cons.2 ⟨fun c hc => ?_, mergeL_rise (fun x hx => kl x (by simp [hx])) kr pl.2 hr⟩
      rcases List.mem_append.1 ((mergeL_perm _ _ _).mem_iff.1 hc) with hc | hc
      · exact pl.1 c hc
      · rcases List.mem_cons.1 hc with rfl | hc
        · omega
        · exact cmpK_trans a b c ks (by omega) (pr.1 c hc)
theorem sortN_rise {ks : List (Int × Bool)} : ∀ {f : Nat} {l : List (List ValV)}, l.length ≤ f → (∀ a ∈ l, AllK ks a) → RiseK ks (sortN (fun r s => befB r s ks) f l)
  | 0, l, h, _ => by
    obtain rfl : l = [] := List.eq_nil_of_length_eq_zero (by omega)
    exact List.Pairwise.nil
  | f + 1, l, h, k => by
    rw [sortN]
    by_cases h2 : l.length < 2
    · rw [if_pos h2]
      match l, h2 with
      | [], _ => exact List.Pairwise.nil
      | [a], _ => exact List.pairwise_singleton _ _
    · rw [if_neg h2]
      have k1 : ∀ a ∈ l.take (l.length / 2), AllK ks a := fun a ha => k a (List.mem_of_mem_take ha)
      have k2 : ∀ a ∈ l.drop (l.length / 2), AllK ks a := fun a ha => k a (List.mem_of_mem_drop ha)
      exact mergeL_rise (fun a ha => k1 a ((sortN_perm _ _ _).mem_iff.1 ha)) (fun a ha => k2 a ((sortN_perm _ _ _).mem_iff.1 ha))
        (sortN_rise (by rw [List.length_take]; omega) k1) (sortN_rise (by rw [List.length_drop]; omega) k2)
theorem sortR_rise {ks : List (Int × Bool)} {l : List (List ValV)} (k : ∀ a ∈ l, AllK ks a) : RiseK ks (sortR ks l) := sortN_rise (Nat.le_refl _) k
/-- Two rising permutations of one another are the same. -/
theorem rise_unique {ks : List (Int × Bool)} : ∀ {l m : List (List ValV)}, RiseK ks l → RiseK ks m → l.Perm m → l = m
  | [], m, _, _, hp => (List.nil_perm.1 hp).symm
  | a :: l, [], _, _, hp => absurd hp.length_eq (by simp)
  | a :: l, b :: m, hl, hm, hp => by
    have pl := List.pairwise_cons.1 hl
    have pm := List.pairwise_cons.1 hm
    have e : a = b := by
      have h1 : b ∈ a :: l := hp.mem_iff.2 (by simp)
      have h2 : a ∈ b :: m := hp.mem_iff.1 (by simp)
      rcases List.mem_cons.1 h1 with h1 | h1
      · exact h1.symm
      · rcases List.mem_cons.1 h2 with h2 | h2
        · exact h2
        · have := pl.1 b h1
          have := pm.1 a h2
          have := cmpK_neg a b ks
          exact (cmpK_zero (ks := ks)).1 (by omega)
    subst e
    rw [rise_unique pl.2 pm.2 hp.cons_inv]
end Go.Proofs.YtobepbpiagclnaaDoor
namespace Go.Proofs.YtobepbpiagclnaaDoor
set_option linter.unusedVariables false
open Go.ChangeShapes Go.WideShapes Go.ChangeAt Go.RowKit

/-- Of the first n runs, run k's first row x comes next. -/
structure LeastTo {α : Type} (lt : α → α → Bool) (L : List (List α)) (n k : Nat) (x : α) (t : List α) : Prop where
  small : k < n
  at_ : L[k]? = some (x :: t)
  low : ∀ i y s, i < n → L[i]? = some (y :: s) → lt y x = false
  first : ∀ i y s, i < k → L[i]? = some (y :: s) → lt x y = true
theorem mergeL_head {α : Type} {lt : α → α → Bool} {y : α} {s : List α} : ∀ {A B : List α}, mergeL lt A B = y :: s → (∃ u, A = y :: u) ∨ ∃ u, B = y :: u
  | [], B, h => by rw [mergeL] at h; exact .inr ⟨s, h⟩
  | a :: A, [], h => by rw [mergeL_nil] at h; exact .inl ⟨s, h⟩
  | a :: A, b :: B, h => by
    cases hx : lt b a with
    | true => rw [mergeL_right hx] at h; injection h with h1 h2; subst h1; exact .inr ⟨B, rfl⟩
    | false => rw [mergeL_left hx] at h; injection h with h1 h2; subst h1; exact .inl ⟨A, rfl⟩
theorem mergeN_head {α : Type} {lt : α → α → Bool} : ∀ (f : Nat) (L : List (List α)) (y : α) (s : List α), mergeN lt f L = y :: s → ∃ i u, i < L.length ∧ L[i]? = some (y :: u)
  | 0, L, y, s, h => by rw [mergeN] at h; cases h
  | f + 1, L, y, s, h => by
    rw [mergeN] at h
    by_cases h0 : L.length = 0
    · rw [if_pos h0] at h; cases h
    rw [if_neg h0] at h
    by_cases h1 : L.length = 1
    · rw [if_pos h1] at h
      obtain ⟨l, rfl⟩ := List.length_eq_one_iff.1 h1
      refine ⟨0, s, by simp, ?_⟩
      have : l = y :: s := by simpa using h
      rw [this]; rfl
    rw [if_neg h1] at h
    rcases mergeL_head h with ⟨u, hu⟩ | ⟨u, hu⟩
    · obtain ⟨i, v, hi, hv⟩ := mergeN_head f _ _ _ hu
      rw [List.length_take] at hi
      rw [List.getElem?_take_of_lt (by omega)] at hv
      exact ⟨i, v, by omega, hv⟩
    · obtain ⟨i, v, hi, hv⟩ := mergeN_head f _ _ _ hu
      rw [List.length_drop] at hi
      rw [List.getElem?_drop] at hv
      exact ⟨_, v, by omega, hv⟩
theorem mergeN_empty {α : Type} {lt : α → α → Bool} (f : Nat) (L : List (List α)) (h : ∀ l ∈ L, l = []) : mergeN lt f L = [] := by
  match hm : mergeN lt f L with
  | [] => rfl
  | y :: s =>
    obtain ⟨i, u, _, hu⟩ := mergeN_head f L y s hm
    have := h _ (List.mem_of_getElem? hu)
    cases this
theorem mergeN_step {α : Type} {lt : α → α → Bool} : ∀ (f : Nat) (L : List (List α)) (k : Nat) (x : α) (t : List α), L.length < f → LeastTo lt L L.length k x t → mergeN lt f L = x :: mergeN lt f (L.set k t)
  | 0, L, k, x, t, hf, _ => absurd hf (by omega)
  | f + 1, L, k, x, t, hf, h => by
    rw [mergeN, mergeN, List.length_set]
    have hk := h.small
    have h0 : ¬ L.length = 0 := by omega
    rw [if_neg h0, if_neg h0]
    by_cases h1 : L.length = 1
    · rw [if_pos h1, if_pos h1]
      obtain ⟨l, rfl⟩ := List.length_eq_one_iff.1 h1
      obtain rfl : k = 0 := by simp at hk; omega
      have e := h.at_
      simp at e
      subst e
      simp
    rw [if_neg h1, if_neg h1]
    obtain ⟨m, hm⟩ : ∃ m, L.length / 2 = m := ⟨_, rfl⟩
    rw [hm]
    by_cases hkm : k < m
    · have hs : LeastTo lt (L.take m) (L.take m).length k x t := by
        refine ⟨by rw [List.length_take]; omega, by rw [List.getElem?_take_of_lt hkm]; exact h.at_, fun i y s hi hy => ?_, fun i y s hi hy => ?_⟩
        · rw [List.length_take] at hi
          rw [List.getElem?_take_of_lt (by omega)] at hy
          exact h.low i y s (by omega) hy
        · rw [List.getElem?_take_of_lt (by omega)] at hy
          exact h.first i y s hi hy
      rw [mergeN_step f _ k x t (by rw [List.length_take]; omega) hs]
      have e1 : (L.set k t).take m = (L.take m).set k t := by rw [List.take_set]
      have e2 : (L.set k t).drop m = L.drop m := by rw [List.drop_set_of_lt hkm]
      rw [e1, e2]
      match hB : mergeN lt f (L.drop m) with
      | [] => rw [mergeL_nil, mergeL_nil]
      | b :: B =>
        obtain ⟨i, u, hi, hu⟩ := mergeN_head f _ _ _ hB
        rw [List.length_drop] at hi
        rw [List.getElem?_drop] at hu
        rw [mergeL_left (h.low _ b u (by omega) hu)]
    · have hs : LeastTo lt (L.drop m) (L.drop m).length (k - m) x t := by
        refine ⟨by rw [List.length_drop]; omega, by rw [List.getElem?_drop, show m + (k - m) = k from by omega]; exact h.at_, fun i y s hi hy => ?_, fun i y s hi hy => ?_⟩
        · rw [List.length_drop] at hi
          rw [List.getElem?_drop] at hy
          exact h.low _ y s (by omega) hy
        · rw [List.getElem?_drop] at hy
          exact h.first _ y s (by omega) hy
      rw [mergeN_step f _ _ x t (by rw [List.length_drop]; omega) hs]
      have e1 : (L.set k t).take m = L.take m := by rw [List.take_set_of_le (by omega)]
      have e2 : (L.set k t).drop m = (L.drop m).set (k - m) t := by rw [List.drop_set, if_neg hkm]
      rw [e1, e2]
      match hA : mergeN lt f (L.take m) with
      | [] => rw [mergeL, mergeL]
      | a :: A =>
        obtain ⟨i, u, hi, hu⟩ := mergeN_head f _ _ _ hA
        rw [List.length_take] at hi
        rw [List.getElem?_take_of_lt (by omega)] at hu
        rw [mergeL_right (h.first _ a u (by omega) hu)]
/-- An order among what S holds of. -/
structure OrdOn {α : Type} (lt : α → α → Bool) (S : α → Prop) : Prop where
  irr : ∀ x, S x → lt x x = false
  asy : ∀ x y, S x → S y → lt x y = true → lt y x = false
  tr : ∀ x y z, S x → S y → S z → lt z x = false → lt y x = true → lt y z = true
/-- What the search for the least knows behind n runs. -/
def LeastSt {α : Type} (lt : α → α → Bool) (L : List (List α)) (n : Nat) (v : Int) : Prop := (v = -1 ∧ ∀ i l, i < n → L[i]? = some l → l = []) ∨ ∃ (j : Nat) (x : α) (t : List α), v = j ∧ LeastTo lt L n j x t
section
variable {α : Type} {lt : α → α → Bool} {S : α → Prop} {L : List (List α)} {n : Nat} {v : Int} {y : α} {s : List α}
theorem LeastSt.zero : LeastSt lt L 0 (-1) := .inl ⟨rfl, fun i _ h => absurd h (by omega)⟩
theorem LeastSt.skip (h : LeastSt lt L n v) (h0 : L[n]? = some []) : LeastSt lt L (n + 1) v := by
  rcases h with ⟨e, h⟩ | ⟨j, x, t, e, h⟩
  · refine .inl ⟨e, fun i l hi hl => ?_⟩
    by_cases hn : i = n
    · subst hn; rw [h0] at hl; injection hl with hl; exact hl.symm
    · exact h i l (by omega) hl
  · refine .inr ⟨j, x, t, e, by have := h.small; omega, h.at_, fun i y s hi hy => ?_, h.first⟩
    by_cases hn : i = n
    · subst hn; rw [h0] at hy; injection hy with hy; cases hy
    · exact h.low i y s (by omega) hy
theorem LeastSt.fresh (h : LeastSt lt L n (-1)) (h0 : L[n]? = some (y :: s)) (hi : lt y y = false) : LeastSt lt L (n + 1) n := by
  rcases h with ⟨_, h⟩ | ⟨j, x, t, e, _⟩
  · refine .inr ⟨n, y, s, rfl, Nat.lt_succ_self _, h0, fun i z u hi2 hz => ?_, fun i z u hi2 hz => ?_⟩
    · by_cases hn : i = n
      · subst hn; rw [h0] at hz; injection hz with hz; injection hz with hz _; subst hz; exact hi
      · have := h i _ (by omega) hz; cases this
    · have := h i _ hi2 hz; cases this
  · omega
theorem LeastTo.keep {j : Nat} {x : α} {t : List α} (h : LeastTo lt L n j x t) (h0 : L[n]? = some (y :: s)) (hl : lt y x = false) : LeastTo lt L (n + 1) j x t := by
  refine ⟨by have := h.small; omega, h.at_, fun i z u hi hz => ?_, h.first⟩
  by_cases hn : i = n
  · subst hn; rw [h0] at hz; injection hz with hz; injection hz with hz _; subst hz; exact hl
  · exact h.low i z u (by omega) hz
theorem LeastTo.take {j : Nat} {x : α} {t : List α} (h : LeastTo lt L n j x t) (o : OrdOn lt S) (hS : ∀ l ∈ L, ∀ r ∈ l, S r) (h0 : L[n]? = some (y :: s)) (hl : lt y x = true) : LeastTo lt L (n + 1) n y s := by
  have hx : S x := hS _ (List.mem_of_getElem? h.at_) x (by simp)
  have hy : S y := hS _ (List.mem_of_getElem? h0) y (by simp)
  have hT : ∀ i z u, i < n → L[i]? = some (z :: u) → lt y z = true := fun i z u hi hz => o.tr x y z hx hy (hS _ (List.mem_of_getElem? hz) z (by simp)) (h.low i z u hi hz) hl
  refine ⟨Nat.lt_succ_self _, h0, fun i z u hi hz => ?_, hT⟩
  by_cases hn : i = n
  · subst hn; rw [h0] at hz; injection hz with hz; injection hz with hz _; subst hz; exact o.irr _ hy
  · exact o.asy _ _ hy (hS _ (List.mem_of_getElem? hz) z (by simp)) (hT i z u (by omega) hz)
end
def ltR (ks : List (Int × Bool)) (r s : List ValV) : Bool := befB r s ks
theorem ordK (ks : List (Int × Bool)) : OrdOn (ltR ks) (AllK ks) := by
  refine ⟨fun x _ => befB_irrefl x ks, fun x y _ _ h => befB_asymm x y ks h, fun x y z hx hy hz h1 h2 => ?_⟩
  unfold ltR at *
  rw [befB_cmp hz hx] at h1
  rw [befB_cmp hy hx] at h2
  rw [befB_cmp hy hz]
  have g1 := of_decide_eq_false h1
  have g2 := of_decide_eq_true h2
  have hn := cmpK_neg z x ks
  have ht := cmpK_trans y x z ks (by omega) (by omega)
  refine decide_eq_true ?_
  by_cases h0 : cmpK y z ks = 0
  · have e := cmpK_zero.1 h0
    subst e
    omega
  · omega
theorem mergeR_step {ks : List (Int × Bool)} {L : List (List (List ValV))} {k : Nat} {x : List ValV} {t : List (List ValV)} (h : LeastTo (ltR ks) L L.length k x t) : mergeR ks L = x :: mergeR ks (L.set k t) := by
  unfold mergeR
  rw [List.length_set]
  exact mergeN_step _ L k x t (Nat.lt_succ_self _) h
theorem mergeR_empty {ks : List (Int × Bool)} {L : List (List (List ValV))} (h : ∀ l ∈ L, l = []) : mergeR ks L = [] := mergeN_empty _ L h
end Go.Proofs.YtobepbpiagclnaaDoor
namespace Go.Proofs.YtobepbpiagclnaaDoor
set_option linter.unusedVariables false
open Go.ChangeShapes Go.WideShapes Go.ChangeAt Go.RowKit

theorem GsAt.head {w : World} {A : Option Addr} {n c : Nat} {gs : List GRun} (h : GsAt w A n c gs) {i : Nat} (hi : i < n) : ∃ b off p, A = some ⟨b, off, none⟩ ∧ gs[i]? = some p ∧ HeadAt w b (off + i) p.1.A p.1.n p.1.c := by
  obtain ⟨b, off, p, e, hb, hp, hc⟩ := h.cell hi
  exact ⟨b, off, p, e, hp, hb, hc⟩
theorem GsAt.head2 {w : World} {A : Option Addr} {n c : Nat} {gs : List GRun} (h : GsAt w A n c gs) {i j : Nat} (hi : i < n) (hj : j < n) : ∃ b off p q, A = some ⟨b, off, none⟩ ∧ gs[i]? = some p ∧ HeadAt w b (off + i) p.1.A p.1.n p.1.c ∧ gs[j]? = some q ∧ HeadAt w b (off + j) q.1.A q.1.n q.1.c := by
  obtain ⟨b, off, p, e, hp, h1⟩ := h.head hi
  obtain ⟨b', off', q, e', hq, h2⟩ := h.head hj
  rw [e] at e'
  injection e' with e'
  injection e' with e1 e2
  subst e1 e2
  exact ⟨b, off, p, q, e, hp, h1, hq, h2⟩
theorem HsAt.front {w : World} {A : Option Addr} {n c : Nat} {r : HRow} {ps : List HRow} (h : HsAt w A n c (r :: ps)) : ∃ b off, A = some ⟨b, off, none⟩ ∧ HeadAt w b off r.1.A r.1.n r.1.c := by
  obtain ⟨b, off, p, e, hp, h1⟩ := h.head (i := 0) (by have := h.sl.len; simp at this; omega)
  injection hp with hp
  subst hp
  exact ⟨b, off, e, h1⟩
theorem rowsG_at {gs : List GRun} {i : Nat} {g : GRun} (h : gs[i]? = some g) : (rowsG gs)[i]? = some (sndL g.2) := by
  unfold rowsG
  rw [List.getElem?_map, h]
  rfl
def GivesLeast (w : World) (L : List (List (List ValV))) (ks : List (Int × Bool)) (e : Ending) (w' : World) : Prop := ∃ v : Int, e = .returned (.int .i64 v) ∧ LeastSt (ltR ks) L L.length v ∧ Below w.heap.size w w'
end Go.Proofs.YtobepbpiagclnaaDoor
namespace Go.Proofs.YtobepbpiagclnaaDoor
set_option linter.unusedVariables false
open Go.ChangeShapes Go.WideShapes Go.ChangeAt Go.RowKit

section
variable {w w' : World} {b1 b2 k1 k2 n1 n2 : Nat} {e1 e2 : TypeId} {v1 v2 : Value} {x1 x2 : List Value}
/-- Rows of the call's own of two types lie apart. -/
theorem own_ne (h1 : w.ownsRow b1 e1 k1 v1 n1 x1) (h2 : w.ownsRow b2 e2 k2 v2 n2 x2) (he : e1 ≠ e2) : v1.ownBlock = none ∨ v1.ownBlock ≠ v2.ownBlock := by
  rcases h1.2 with ⟨rfl, _⟩ | ⟨g1, c1, cur1, rfl, _, hg1, _⟩
  · exact .inl rfl
  refine .inr ?_
  rcases h2.2 with ⟨rfl, _⟩ | ⟨g2, c2, cur2, rfl, _, hg2, _⟩
  · intro e; cases e
  · intro e
    injection e with e
    subst e
    rw [hg1] at hg2
    injection hg2 with hg2
    injection hg2 with _ ht
    exact he ht
theorem own_base {b : Nat} (h : w.ownsRow b1 e1 k1 v1 n1 x1) (hb : b ≤ b1) : w.ownsRow b e1 k1 v1 n1 x1 := by
  refine ⟨h.1, ?_⟩
  rcases h.2 with hn | ⟨g, cap, cur, rfl, h1, rest⟩
  · exact .inl hn
  · exact .inr ⟨g, cap, cur, rfl, Nat.le_trans hb h1, rest⟩
end
/-- A row of the call's own, of the heads of runs. -/
def OwnG (base : Nat) (w : World) (v : Value) (gs : List GRun) : Prop := w.ownsRow base 22 1 v gs.length (gs.map gdV)
/-- A row of values that is the call's own. -/
def OwnR (base : Nat) (w : World) (p : HRow) : Prop := p.2.length = p.1.n ∧ w.ownsRow base 33 3 (hdV p) p.1.n (p.2.map valCells).flatten
theorem ne_GH : (22 : TypeId) ≠ 26 := by decide
theorem ne_RH : (33 : TypeId) ≠ 26 := by decide
theorem ne_RG : (33 : TypeId) ≠ 22 := by decide
section
variable {base : Nat} {w w' : World} {v : Value} {gs : List GRun} {p : HRow} {A : Option Addr} {n c : Nat}
theorem OwnG.gsAt {w0 : World} (h : OwnG base w (.slice A n c) gs) (hb : Below w0.heap.size w0 w) (he : ∀ g ∈ gs, HsAt w0 g.1.A g.1.n g.1.c g.2) : GsAt w A n c gs := by
  obtain ⟨A', c', e, hs⟩ := sl_of_own (l := gs) (f := gdC) (by rw [gdC_flat]; exact h) (fun _ => rfl)
  injection e with e1 e2 e3
  subst e1 e2 e3
  exact ⟨hs, fun p hp => (he p hp).kept hb⟩
theorem OwnR.row (h : OwnR base w p) : RowAt w w.heap.size p.1.A p.1.n p.1.c p.2 := by
  obtain ⟨h1, h2⟩ := h
  rw [← h1] at h2
  obtain ⟨A', c', e, hs⟩ := sl_of_own (l := p.2) (f := valCells) h2 valCells_len
  unfold hdV at e
  injection e with e1 e2 e3
  rw [e1, e2, e3]
  exact hs
theorem OwnH.hsR {os : List HRow} (h : OwnH base w v os) (hr : ∀ p ∈ os, OwnR base w p) : ∃ A c, v = .slice A os.length c ∧ HsAt w A os.length c os := by
  obtain ⟨A, c, e, hs⟩ := sl_of_own (l := os) (f := hdC) (by rw [hdC_flat]; exact h) (fun _ => rfl)
  exact ⟨A, c, e, hs, fun p hp => (hr p hp).row⟩
end
set_option maxRecDepth 100000 in
/-- Copy, and whose the new memory is. -/
theorem CopyO_c (A : Option Addr) (n c : Nat) (r : List ValV) (w : World) (h : RowAt w w.heap.size A n c r) (hn : n ≤ 1048576) :
    Calls Tryd.prog 24 #[.slice A n c] w fun e w' => ∃ X cx, e = .returned (.slice X n cx) ∧ OwnR w.heap.size w' (⟨X, n, cx⟩, r) ∧ Below w.heap.size w w' := by
  obtain ⟨i0, hi0, hz0, hz1, hz2⟩ := info_parts value_info'
  have hl := h.len
  have H := hide (h.kept (Bel.one w (.cells #[] 33)))
  have HO := hide (World.ownsRow_lit (base := w.heap.size) (e := 33) (size := 3) w #[] 0 (Nat.le_refl _) (by simp [maxLen]) rfl)
  have HB := hide (Bel.one w (.cells #[] 33))
  clear h
  go_enter Tryd.func24, Tryd.ntmps24
  go_wp2_with (at_builtin; refine wpList_app rfl (.tmp 3) (.tmp 4) 26 rfl w.heap.size 33 i0 _ 3 32 Tryd.underlying26 hi0 hz0 hz1 hz2 rfl (by omega) _ 0 [] rfl HO.out _ A n c (r.map valCells).flatten rfl (by rw [flat_len _ 3 (H.out.recs.1), List.length_map, H.out.len]) H.out.recs.2 (cells_one _) (by unfold maxLen; omega) (by omega) HB.out.size H.out.nil ?_; intro v1 w2 hown hgr _; have HOn := hide hown; have HBn := hide (own_grown HB.out hgr (by intro k hk; have hk2 : w.heap.size = k := Option.some.inj hk; omega)); clear hown hgr HO HB H)
  have ho := HOn.out
  rw [Nat.zero_add, List.nil_append] at ho
  obtain ⟨X, cx, rfl, _⟩ := own_form ho
  have HX := hide ho
  clear ho HOn
  go_wp2_with fail
  go_ret
  exact ⟨X, cx, rfl, ⟨hl, HX.out⟩, HBn.out⟩
theorem set_good {α : Type} {P : α → Prop} {L : List (List α)} {j : Nat} {x : α} {t : List α} (h : ∀ l ∈ L, ∀ r ∈ l, P r) (hj : L[j]? = some (x :: t)) : ∀ l ∈ L.set j t, ∀ r ∈ l, P r := by
  intro l hl r hr
  rcases List.mem_or_eq_of_mem_set hl with hl | rfl
  · exact h l hl r hr
  · exact h _ (List.mem_of_getElem? hj) r (by simp [hr])
/-- The run whose first row comes next, without it. -/
theorem least_take {ks : List (Int × Bool)} {gs : List GRun} {n j : Nat} {x : List ValV} {t : List (List ValV)} (h : LeastTo (ltR ks) (rowsG gs) n j x t) : ∃ gA gn gc r ps, gs[j]? = some (⟨gA, gn, gc⟩, r :: ps) ∧ r.2 = x ∧ j < gs.length ∧ rowsG (gs.set j (⟨sndA gc 1 gA, gn - 1, gc - 1⟩, ps)) = (rowsG gs).set j t := by
  have ha := h.at_
  unfold rowsG at ha
  rw [List.getElem?_map] at ha
  obtain ⟨⟨⟨gA, gn, gc⟩, qs⟩, hg, he⟩ := Option.map_eq_some_iff.1 ha
  cases qs with
  | nil => cases he
  | cons r ps =>
    simp only [List.map_cons] at he
    injection he with h1 h2
    refine ⟨gA, gn, gc, r, ps, hg, h1, (List.getElem?_eq_some_iff.1 hg).1, ?_⟩
    unfold rowsG
    rw [List.map_set, ← h2]
structure GoodR (ks : List (Int × Bool)) (r : List ValV) : Prop where
  all : AllK ks r
  strs : StrsOk r
  len : r.length ≤ 1048576
/-- What stands in memory between two rounds of Merge. -/
structure MergeR (w wr : World) (lv ov : Value) (gs : List GRun) (os : List HRow) : Prop where
  left : OwnG w.heap.size wr lv gs
  runs : ∀ g ∈ gs, HsAt w g.1.A g.1.n g.1.c g.2
  out : OwnH w.heap.size wr ov os
  rows : ∀ p ∈ os, OwnR w.heap.size wr p
  below : Below w.heap.size w wr
section
variable {w wr w' : World} {lv ov : Value} {gs : List GRun} {os : List HRow}
theorem MergeR.kept (h : MergeR w wr lv ov gs os) (hb : Below wr.heap.size wr w') : MergeR w w' lv ov gs os :=
  ⟨own_below h.left hb, h.runs, h.out.kept hb, fun p hp => ⟨(h.rows p hp).1, own_below (h.rows p hp).2 hb⟩, Bel.then h.below hb⟩
theorem MergeR.app {v1 : Value} {p : HRow} (h : MergeR w wr lv ov gs os) (hg : wr.grownBy w' ov.ownBlock) (ho : OwnH w.heap.size w' v1 (os ++ [p])) (hp : OwnR w.heap.size wr p) : MergeR w w' lv v1 gs (os ++ [p]) := by
  have hk : ∀ q, OwnR w.heap.size wr q → OwnR w.heap.size w' q := fun q hq => ⟨hq.1, hq.2.kept hg (own_ne hq.2 h.out ne_RH)⟩
  refine ⟨World.ownsRow.kept h.left hg (own_ne h.left h.out ne_GH), h.runs, ho, fun q hq => ?_, own_grown h.below hg h.out.blk⟩
  rcases List.mem_append.1 hq with hq | hq
  · exact hk q (h.rows q hq)
  · rw [List.mem_singleton.1 hq]; exact hk p hp
theorem MergeR.store {g n cap j : Nat} {gA : Option Addr} {gn gc : Nat} {r : HRow} {ps : List HRow} (h : MergeR w wr (.slice (some ⟨g, 0, none⟩) n cap) ov gs os) (hn : gs.length = n) (hj : gs[j]? = some (⟨gA, gn, gc⟩, r :: ps)) :
    MergeR w (wr.setCell ⟨g, j, none⟩ (.slice (sndA gc 1 gA) (gn - 1) (gc - 1))) (.slice (some ⟨g, 0, none⟩) n cap) ov (gs.set j (⟨sndA gc 1 gA, gn - 1, gc - 1⟩, ps)) os := by
  subst hn
  have hl := h.left
  unfold OwnG at hl
  obtain ⟨h1, h2⟩ := hl.stored j (.slice (sndA gc 1 gA) (gn - 1) (gc - 1))
  refine ⟨?_, fun q hq => ?_, World.ownsRow.kept h.out h2 ?_, fun q hq => ⟨(h.rows q hq).1, (h.rows q hq).2.kept h2 (own_ne (h.rows q hq).2 hl ne_RG)⟩, own_grown h.below h2 fun k hk => ?_⟩
  · unfold OwnG
    rw [List.length_set, List.map_set]
    exact h1
  · rcases List.mem_or_eq_of_mem_set hq with hq | rfl
    · exact h.runs q hq
    · have hb := h.runs _ (List.mem_of_getElem? hj)
      exact hs_back hb (by show 1 ≤ gn; have : ps.length + 1 = gn := hb.sl.len; omega)
  · exact own_ne h.out hl (Ne.symm ne_GH)
  · injection hk with hk
    subst hk
    exact (hl.lt _ rfl).1
end
end Go.Proofs.YtobepbpiagclnaaDoor
namespace Go.Proofs.YtobepbpiagclnaaDoor
set_option linter.unusedVariables false
open Go.ChangeShapes Go.WideShapes Go.ChangeAt Go.RowKit

theorem gd_one (gs : List GRun) : ∀ u ∈ gs.map gdV, u.oneCell' = true := by
  intro u hu
  obtain ⟨p, _, rfl⟩ := List.mem_map.1 hu
  rfl
theorem MergeR.block {w wr : World} {A : Option Addr} {n c : Nat} {ov : Value} {gs : List GRun} {os : List HRow} (h : MergeR w wr (.slice A n c) ov gs os) (hn : 0 < gs.length) : ∃ g, A = some ⟨g, 0, none⟩ := by
  rcases h.left.2 with ⟨_, h0⟩ | ⟨g, cap, cur, hv, _⟩
  · omega
  · injection hv with h1 _ _
    exact ⟨g, h1⟩
theorem MergeR.cell {w wr : World} {g n c : Nat} {ov : Value} {gs : List GRun} {os : List HRow} (h : MergeR w wr (.slice (some ⟨g, 0, none⟩) n c) ov gs os) (hn : gs.length = n) {j : Nat} {p : GRun} (hj : gs[j]? = some p) : wr.cell? ⟨g, j, none⟩ = some (gdV p) ∧ wr.frozen? ⟨g, j, none⟩ = false ∧ g < wr.heap.size := by
  subst hn
  have hl := h.left
  unfold OwnG at hl
  exact ⟨own_cell hl (by rw [List.getElem?_map, hj]; rfl), hl.frozenAt j, (hl.lt _ rfl).2⟩
end Go.Proofs.YtobepbpiagclnaaDoor
namespace Go.Proofs.YtobepbpiagclnaaDoor
set_option linter.unusedVariables false
open Go.ChangeShapes Go.WideShapes Go.ChangeAt Go.RowKit

theorem rise_ins {ks : List (Int × Bool)} {S : List (List ValV)} {x : List ValV} {k : Nat} (hS : RiseK ks S) (kS : ∀ a ∈ S, AllK ks a) (kx : AllK ks x)
    (h1 : ∀ (i : Nat) a, i < k → S[i]? = some a → befB x a ks = false) (h2 : ∀ a, S[k]? = some a → befB x a ks = true) : RiseK ks (S.take k ++ x :: S.drop k) := by
  have hT : ∀ a ∈ S.take k, cmpK a x ks ≤ 0 := fun a ha => by
    obtain ⟨i, hi⟩ := List.getElem?_of_mem ha
    have hil : i < k := by have := (List.getElem?_eq_some_iff.1 hi).1; rw [List.length_take] at this; omega
    rw [List.getElem?_take_of_lt hil] at hi
    have hb := h1 i a hil hi
    rw [befB_cmp kx (kS a (List.mem_of_getElem? hi))] at hb
    have := of_decide_eq_false hb
    have := cmpK_neg x a ks
    omega
  have hD : ∀ a ∈ S.drop k, cmpK x a ks ≤ 0 := fun a ha => by
    match hd : S.drop k, ha with
    | b :: D, ha =>
      have hb : S[k]? = some b := by
        have : (S.drop k)[0]? = some b := by rw [hd]; rfl
        rw [List.getElem?_drop, Nat.add_zero] at this
        exact this
      have hxb := h2 b hb
      rw [befB_cmp kx (kS b (List.mem_of_getElem? hb))] at hxb
      have hlt := of_decide_eq_true hxb
      have hp : RiseK ks (b :: D) := by rw [← hd]; exact hS.sublist (List.drop_sublist _ _)
      rcases List.mem_cons.1 ha with rfl | ha
      · omega
      · exact cmpK_trans x b a ks (by omega) ((List.pairwise_cons.1 hp).1 a ha)
  have hTD : ∀ a ∈ S.take k, ∀ b ∈ S.drop k, cmpK a b ks ≤ 0 := by
    have : RiseK ks (S.take k ++ S.drop k) := by rw [List.take_append_drop]; exact hS
    exact (List.pairwise_append.1 this).2.2
  refine List.pairwise_append.2 ⟨hS.sublist (List.take_sublist _ _), List.pairwise_cons.2 ⟨hD, hS.sublist (List.drop_sublist _ _)⟩, fun a ha b hb => ?_⟩
  rcases List.mem_cons.1 hb with rfl | hb
  · exact hT a ha
  · exact hTD a ha b hb
/-- What out holds behind i rows. -/
structure InsK (ks : List (Int × Bool)) (rows : List (List ValV)) (i : Nat) (S : List (List ValV)) : Prop where
  rise : RiseK ks S
  perm : S.Perm (rows.take i)
theorem InsK.next {ks : List (Int × Bool)} {rows S : List (List ValV)} {i k : Nat} {x : List ValV} (h : InsK ks rows i S) (hx : rows[i]? = some x) (ha : ∀ a ∈ rows, AllK ks a)
    (h1 : ∀ (i : Nat) a, i < k → S[i]? = some a → befB x a ks = false) (h2 : ∀ a, S[k]? = some a → befB x a ks = true) : InsK ks rows (i + 1) (S.take k ++ x :: S.drop k) := by
  refine ⟨rise_ins h.rise (fun a hm => ha a (List.mem_of_mem_take (h.perm.mem_iff.1 hm))) (ha x (List.mem_of_getElem? hx)) h1 h2, ?_⟩
  rw [take_at hx]
  refine List.perm_middle.trans ?_
  rw [List.take_append_drop]
  exact (h.perm.cons x).trans (List.perm_append_comm (l₁ := [x]))
theorem InsK.done {ks : List (Int × Bool)} {rows S : List (List ValV)} {i : Nat} (h : InsK ks rows i S) (hi : rows.length ≤ i) (ha : ∀ a ∈ rows, AllK ks a) : S = sortR ks rows := by
  have hp := h.perm
  rw [List.take_of_length_le hi] at hp
  exact rise_unique h.rise (sortR_rise ha) (hp.trans (sortR_perm ks rows).symm)
/-- Rows that are the call's own. -/
structure OwnRs (base : Nat) (w : World) (v : Value) (os : List HRow) : Prop where
  out : OwnH base w v os
  rows : ∀ p ∈ os, OwnR base w p
section
variable {base : Nat} {w w' : World} {v : Value} {os : List HRow} {X : Option Addr} {n c : Nat} {p : HRow}
theorem OwnR.kept (h : OwnR base w p) (hb : Below w.heap.size w w') : OwnR base w' p := ⟨h.1, own_below h.2 hb⟩
theorem OwnR.lower {b : Nat} (h : OwnR base w p) (hb : b ≤ base) : OwnR b w p := ⟨h.1, own_base h.2 hb⟩
theorem OwnR.grown (h : OwnR base w p) {u : Value} {b2 : Nat} {os2 : List HRow} (hg : w.grownBy w' u.ownBlock) (ho : OwnH b2 w u os2) : OwnR base w' p := ⟨h.1, h.2.kept hg (own_ne h.2 ho ne_RH)⟩
theorem OwnRs.kept (h : OwnRs base w v os) (hb : Below w.heap.size w w') : OwnRs base w' v os := ⟨h.out.kept hb, fun p hp => (h.rows p hp).kept hb⟩
theorem OwnRs.lower {b : Nat} (h : OwnRs base w v os) (hb : b ≤ base) : OwnRs b w v os := ⟨own_base h.out hb, fun p hp => (h.rows p hp).lower hb⟩
theorem OwnRs.hs (h : OwnRs base w (.slice X n c) os) : HsAt w X n c os := by
  obtain ⟨A, c', e, hs⟩ := h.out.hsR h.rows
  injection e with e1 e2 e3
  subst e1 e2 e3
  exact hs
end
end Go.Proofs.YtobepbpiagclnaaDoor
namespace Go.Proofs.YtobepbpiagclnaaDoor
set_option linter.unusedVariables false
open Go.ChangeShapes Go.WideShapes Go.ChangeAt Go.RowKit

theorem Bel.trans2 {w a b : World} (h : Below w.heap.size w a) (k : Below a.heap.size a b) : Below w.heap.size w b := Bel.then h k
/-- What stands in memory between two rounds. -/
def SortSt (w wr : World) (v : Value) (os : List HRow) : Prop := Below w.heap.size w wr ∧ OwnRs w.heap.size wr v os
theorem SortSt.kept {w wr w' : World} {v : Value} {os : List HRow} (h : SortSt w wr v os) (hb : Below wr.heap.size wr w') : SortSt w w' v os := ⟨Bel.then h.1 hb, h.2.kept hb⟩
/-- Rows that are the call's own, given back. -/
def GivesRs (w : World) (n : Nat) (S : List (List ValV)) (e : Ending) (w' : World) : Prop := ∃ X cx os, e = .returned (.slice X n cx) ∧ OwnRs w.heap.size w' (.slice X n cx) os ∧ sndL os = S ∧ Below w.heap.size w w'
theorem HsAt.headAt {w : World} {b off n c : Nat} {ps : List HRow} (h : HsAt w (some ⟨b, off, none⟩) n c ps) {i : Nat} {pA : Option Addr} {pn pc : Nat} {p2 : List ValV} (hp : ps[i]? = some (⟨pA, pn, pc⟩, p2)) : HeadAt w b (off + i) pA pn pc := by
  have hi : i < n := by have := (List.getElem?_eq_some_iff.1 hp).1; have := h.sl.len; omega
  obtain ⟨b', off', p, e, hp', h1⟩ := h.head hi
  rw [hp] at hp'
  injection hp' with hp'
  injection e with e
  injection e with e1 e2
  subst e1 e2 hp'
  exact h1
end Go.Proofs.YtobepbpiagclnaaDoor

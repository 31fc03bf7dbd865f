/- Plain arithmetic of costs: numbers between 0 and 10^12. -/
import Derived.Lib.Hide
namespace Go.Proofs.Ytnkfimpfnofhnaa
set_option linter.unusedVariables false

def bI (n : Int) : Int := if n < 0 then 0 else if 1000000000000 < n then 1000000000000 else n
theorem bI_bd (n : Int) : 0 ≤ bI n ∧ bI n ≤ 1000000000000 := by unfold bI; repeat' split <;> omega
theorem bI_id {n : Int} (h : 0 ≤ n) (h2 : n ≤ 1000000000000) : bI n = n := by unfold bI; repeat' split <;> omega
theorem bI_bI (n : Int) : bI (bI n) = bI n := bI_id (bI_bd n).1 (bI_bd n).2
theorem bI_mono {a b : Int} (h : a ≤ b) : bI a ≤ bI b := by unfold bI; repeat' split <;> omega
/-- Saturating twice is saturating once, where nothing is below 0. -/
theorem bI_add {a b : Int} (ha : 0 ≤ a) (hb : 0 ≤ b) : bI (bI a + b) = bI (a + b) := by unfold bI; repeat' split <;> omega
theorem bI_add2 {a b : Int} (ha : 0 ≤ a) (hb : 0 ≤ b) : bI (bI a + bI b) = bI (a + b) := by unfold bI; repeat' split <;> omega

def addI (a b : Int) : Int := bI (bI a + bI b)
def mulI (a b : Int) : Int := bI (bI a * bI b)
def scanI (p r : Int) : Int := bI (10 * bI p + bI r)
def seekI (h r : Int) : Int := bI (10 * bI h + 11 * bI r)
def nestI (l lc rc : Int) : Int := addI lc (mulI l rc)
def hashI (l lc r rc : Int) : Int := bI (bI lc + bI rc + bI l + 2 * bI r)
def digN : Nat → Nat
  | 0 => 0
  | n + 1 => digN ((n + 1) / 2) + 1
def digI (n : Int) : Int := digN n.toNat
def sortI (n c : Int) : Int := bI (bI c + bI n * digI (bI n))
def mergeI (l lc r rc : Int) : Int := bI (sortI l lc + sortI r rc + bI l + bI r)
def eachI (n c : Int) : Int := addI c n
def allL (a b c d : Int) : List Int := [addI a b, mulI a b, scanI a b, seekI a b, nestI a b c, hashI a b c d, mergeI a b c d, sortI a b, eachI a b]

def sumI (zs : List Int) : Int := zs.foldl (fun n c => bI (n + c)) 0
theorem sumI_snoc (zs : List Int) (z : Int) : sumI (zs ++ [z]) = bI (sumI zs + z) := by simp [sumI]
theorem sumI_bd (zs : List Int) : 0 ≤ sumI zs ∧ sumI zs ≤ 1000000000000 := by
  unfold sumI
  have : ∀ (l : List Int) (a : Int), 0 ≤ a → a ≤ 1000000000000 → 0 ≤ l.foldl (fun n c => bI (n + c)) a ∧ l.foldl (fun n c => bI (n + c)) a ≤ 1000000000000 := by
    intro l
    induction l with
    | nil => intro a h h2; exact ⟨h, h2⟩
    | cons x l ih => intro a _ _; exact ih _ (bI_bd _).1 (bI_bd _).2
  exact this zs 0 (by omega) (by omega)
theorem sumI2 {x y : Int} (hx : 0 ≤ x) (hy : 0 ≤ y) : sumI [x, y] = bI (x + y) := by
  simp only [sumI, List.foldl_cons, List.foldl_nil]; rw [bI_add (by omega) hy]; congr 1; omega
theorem sumI4 {x y z u : Int} (hx : 0 ≤ x) (hy : 0 ≤ y) (hz : 0 ≤ z) (hu : 0 ≤ u) : sumI [x, y, z, u] = bI (x + y + z + u) := by
  simp only [sumI, List.foldl_cons, List.foldl_nil]; rw [bI_add (by omega) hy, bI_add (by omega) hz, bI_add (by omega) hu]; congr 1; omega

theorem digN_pos {n : Nat} (h : 0 < n) : digN n = digN (n / 2) + 1 := by
  cases n with
  | zero => omega
  | succ n => rw [digN]
theorem digN_mono : ∀ (a b : Nat), a ≤ b → digN a ≤ digN b := by
  intro a
  induction a using Nat.strongRecOn with
  | ind a ih =>
    intro b hab
    by_cases h : a = 0
    · subst h; simp [digN]
    · rw [digN_pos (by omega), digN_pos (n := b) (by omega)]
      have := ih (a / 2) (by omega) (b / 2) (by omega)
      omega
theorem digN_lt : ∀ (k n : Nat), n < 2 ^ k → digN n ≤ k := by
  intro k
  induction k with
  | zero => intro n h; have : n = 0 := by simpa using h
            subst this; simp [digN]
  | succ k ih =>
    intro n h
    by_cases h0 : n = 0
    · subst h0; simp [digN]
    · rw [digN_pos (by omega)]
      have := ih (n / 2) (by rw [Nat.pow_succ] at h; omega)
      omega
theorem digI_bd (n : Int) (h : n ≤ 1000000000000) : 0 ≤ digI n ∧ digI n ≤ 40 := by
  unfold digI
  have : digN n.toNat ≤ 40 := digN_lt 40 _ (by have : (2 : Nat) ^ 40 = 1099511627776 := by decide
                                               omega)
  omega
theorem digI_pos {n : Int} (h : 0 < n) : digI n = digI (n / 2) + 1 := by
  unfold digI
  rw [digN_pos (by omega)]
  have : (n / 2).toNat = n.toNat / 2 := by omega
  rw [this]; omega
theorem digI_zero : digI 0 = 0 := by simp [digI, digN]
theorem digI_mono {a b : Int} (h : a ≤ b) : digI a ≤ digI b := by
  unfold digI; have := digN_mono a.toNat b.toNat (by omega); omega
theorem mul_bd {a b : Int} (ha : 0 ≤ a) (ha2 : a ≤ 1000000000000) (hb : 0 ≤ b) (hb2 : b ≤ 40) : 0 ≤ a * b ∧ a * b ≤ 40000000000000 := by
  refine ⟨Int.mul_nonneg ha hb, ?_⟩
  have := Int.mul_le_mul ha2 hb2 hb (by omega)
  omega
theorem nd_bd (n : Int) : 0 ≤ bI n * digI (bI n) ∧ bI n * digI (bI n) ≤ 40000000000000 := by
  have h := bI_bd n
  have := digI_bd (bI n) h.2
  exact mul_bd h.1 h.2 this.1 this.2
theorem mulI_fits {a b : Int} (ha : 0 ≤ a) (hb : 0 < b) (h : ¬ 1000000000000 / b < a) : a * b ≤ 1000000000000 := by
  have := Int.mul_le_of_le_ediv hb (Int.not_lt.1 h)
  omega
theorem mulI_over {a b : Int} (ha : 0 ≤ a) (hb : 0 < b) (h : 1000000000000 / b < a) : 1000000000000 < a * b := Int.lt_mul_of_ediv_lt hb h
theorem mul_nn {a b : Int} (ha : 0 ≤ a) (hb : 0 ≤ b) : 0 ≤ a * b := Int.mul_nonneg ha hb

/-! how the reference puts them together -/
theorem ref_scan (p r : Int) : addI (mulI 10 p) r = scanI p r := by
  have hp := bI_bd p; have hr := bI_bd r
  unfold addI mulI scanI
  rw [bI_id (n := (10 : Int)) (by omega) (by omega), bI_bI]
  exact bI_add (by omega) hr.1
theorem ref_seek (h r : Int) : addI (mulI 10 h) (mulI 11 r) = seekI h r := by
  have hp := bI_bd h; have hr := bI_bd r
  unfold addI mulI seekI
  rw [bI_id (n := (10 : Int)) (by omega) (by omega), bI_id (n := (11 : Int)) (by omega) (by omega), bI_bI, bI_bI]
  exact bI_add2 (by omega) (by omega)
theorem ref_hash (l lc r rc : Int) : addI (addI lc rc) (addI l (mulI 2 r)) = hashI l lc r rc := by
  have h1 := bI_bd l; have h2 := bI_bd lc; have h3 := bI_bd r; have h4 := bI_bd rc
  unfold addI mulI hashI
  rw [bI_id (n := (2 : Int)) (by omega) (by omega)]
  simp only [bI_bI]
  rw [Int.add_comm (bI l) (bI (2 * bI r)), bI_add (by omega) h1.1, bI_add2 (by omega) (by omega)]
  congr 1; omega
theorem ref_sort (n c : Int) : addI c (mulI n (digI (bI n))) = sortI n c := by
  have hn := bI_bd n; have hc := bI_bd c; have hd := digI_bd (bI n) hn.2; have := nd_bd n
  unfold addI mulI sortI
  rw [bI_id (n := digI (bI n)) hd.1 (by omega), bI_bI, Int.add_comm (bI c), bI_add this.1 hc.1, Int.add_comm]
theorem ref_merge (l lc r rc : Int) : addI (addI (sortI l lc) (sortI r rc)) (addI l r) = mergeI l lc r rc := by
  have h1 := bI_bd l; have h2 := bI_bd r
  have s1 : 0 ≤ sortI l lc := (bI_bd _).1
  have s2 : 0 ≤ sortI r rc := (bI_bd _).1
  unfold addI mergeI
  simp only [bI_bI]
  have e1 : bI (sortI l lc) = sortI l lc := bI_bI _
  have e2 : bI (sortI r rc) = sortI r rc := bI_bI _
  rw [e1, e2, bI_add2 (by omega) (by omega)]
  congr 1; omega

/-! costs rise -/
theorem addI_mono {a a' b b' : Int} (h : a ≤ a') (k : b ≤ b') : addI a b ≤ addI a' b' := bI_mono (by have := bI_mono h; have := bI_mono k; omega)
theorem mulI_mono {a a' b b' : Int} (h : a ≤ a') (k : b ≤ b') : mulI a b ≤ mulI a' b' :=
  bI_mono (Int.mul_le_mul (bI_mono h) (bI_mono k) (bI_bd _).1 (bI_bd _).1)
theorem scanI_mono {a a' b b' : Int} (h : a ≤ a') (k : b ≤ b') : scanI a b ≤ scanI a' b' := bI_mono (by have := bI_mono h; have := bI_mono k; omega)
theorem seekI_mono {a a' b b' : Int} (h : a ≤ a') (k : b ≤ b') : seekI a b ≤ seekI a' b' := bI_mono (by have := bI_mono h; have := bI_mono k; omega)
theorem nestI_mono {a a' b b' c c' : Int} (h : a ≤ a') (k : b ≤ b') (l : c ≤ c') : nestI a b c ≤ nestI a' b' c' := addI_mono k (mulI_mono h l)
theorem hashI_mono {a a' b b' c c' d d' : Int} (h : a ≤ a') (k : b ≤ b') (l : c ≤ c') (m : d ≤ d') : hashI a b c d ≤ hashI a' b' c' d' :=
  bI_mono (by have := bI_mono h; have := bI_mono k; have := bI_mono l; have := bI_mono m; omega)
theorem sortI_mono {a a' b b' : Int} (h : a ≤ a') (k : b ≤ b') : sortI a b ≤ sortI a' b' := by
  refine bI_mono ?_
  have h1 := bI_mono h
  have h2 := bI_mono k
  have h3 := digI_mono h1
  have := Int.mul_le_mul h1 h3 (digI_bd _ (bI_bd a).2).1 (bI_bd _).1
  omega
theorem mergeI_mono {a a' b b' c c' d d' : Int} (h : a ≤ a') (k : b ≤ b') (l : c ≤ c') (m : d ≤ d') : mergeI a b c d ≤ mergeI a' b' c' d' :=
  bI_mono (by have := sortI_mono h k; have := sortI_mono l m; have := bI_mono h; have := bI_mono l; omega)
theorem eachI_mono {a a' b b' : Int} (h : a ≤ a') (k : b ≤ b') : eachI a b ≤ eachI a' b' := addI_mono k h
theorem allL_mono {a a' b b' c c' d d' : Int} (h : a ≤ a') (k : b ≤ b') (l : c ≤ c') (m : d ≤ d') : ∀ i, i < 9 → (allL a b c d).getD i 0 ≤ (allL a' b' c' d').getD i 0 := by
  intro i hi
  match i, hi with
  | 0, _ => exact addI_mono h k
  | 1, _ => exact mulI_mono h k
  | 2, _ => exact scanI_mono h k
  | 3, _ => exact seekI_mono h k
  | 4, _ => exact nestI_mono h k l
  | 5, _ => exact hashI_mono h k l m
  | 6, _ => exact mergeI_mono h k l m
  | 7, _ => exact sortI_mono h k
  | 8, _ => exact eachI_mono h k
theorem allL_bd (a b c d : Int) : ∀ i, i < 9 → 0 ≤ (allL a b c d).getD i 0 ∧ (allL a b c d).getD i 0 ≤ 1000000000000 := by
  intro i hi
  match i, hi with
  | 0, _ => exact bI_bd _
  | 1, _ => exact bI_bd _
  | 2, _ => exact bI_bd _
  | 3, _ => exact bI_bd _
  | 4, _ => exact bI_bd _
  | 5, _ => exact bI_bd _
  | 6, _ => exact bI_bd _
  | 7, _ => exact bI_bd _
  | 8, _ => exact bI_bd _
/-! sums and products -/
theorem addI_comm (a b : Int) : addI a b = addI b a := by unfold addI; rw [Int.add_comm]
theorem mulI_comm (a b : Int) : mulI a b = mulI b a := by unfold mulI; rw [Int.mul_comm]
theorem addI_assoc (a b c : Int) : addI (addI a b) c = addI a (addI b c) := by
  have h1 := bI_bd a; have h2 := bI_bd b; have h3 := bI_bd c
  unfold addI
  simp only [bI_bI]
  rw [bI_add (by omega) h3.1, Int.add_comm (bI a) (bI (bI b + bI c)), bI_add (by omega) h1.1]
  congr 1; omega
theorem mulI_succ {a : Int} (b : Int) (h : 0 ≤ a) (h2 : a < 1000000000000) : mulI (a + 1) b = addI (mulI a b) b := by
  have hb := bI_bd b
  unfold mulI addI
  rw [bI_id (n := a + 1) (by omega) (by omega), bI_id (n := a) h (by omega), bI_bI, bI_add (mul_nn h hb.1) hb.1, Int.add_mul]
  congr 1; omega
/-! plans -/
theorem addI_ge {a b : Int} : bI a ≤ addI a b := by have := bI_bd a; have := bI_bd b; have h := bI_mono (show bI a ≤ bI a + bI b by omega); rw [bI_bI] at h; exact h
theorem nest_ge (a b c : Int) : bI b ≤ nestI a b c := addI_ge
theorem hash_ge (a b c d : Int) : bI b ≤ hashI a b c d ∧ bI d ≤ hashI a b c d := by
  have h1 := bI_bd a; have h2 := bI_bd b; have h3 := bI_bd c; have h4 := bI_bd d
  have e1 := bI_mono (show bI b ≤ bI b + bI d + bI a + 2 * bI c by omega)
  have e2 := bI_mono (show bI d ≤ bI b + bI d + bI a + 2 * bI c by omega)
  rw [bI_bI] at e1 e2
  exact ⟨e1, e2⟩
theorem sort_ge (n c : Int) : bI c ≤ sortI n c := by
  have h := nd_bd n
  have e := bI_mono (show bI c ≤ bI c + bI n * digI (bI n) by omega)
  rwa [bI_bI] at e
theorem merge_ge (a b c d : Int) : bI b ≤ mergeI a b c d ∧ bI d ≤ mergeI a b c d := by
  have h1 := bI_bd a; have h3 := bI_bd c
  have s1 := sort_ge a b; have s2 := sort_ge c d
  have p1 : 0 ≤ sortI a b := (bI_bd _).1
  have p2 : 0 ≤ sortI c d := (bI_bd _).1
  have e1 := bI_mono (show bI b ≤ sortI a b + sortI c d + bI a + bI c by omega)
  have e2 := bI_mono (show bI d ≤ sortI a b + sortI c d + bI a + bI c by omega)
  rw [bI_bI] at e1 e2
  exact ⟨e1, e2⟩
theorem each_sort (n b : Int) : eachI n b ≤ sortI n b := by
  unfold eachI addI sortI
  refine bI_mono ?_
  have h := bI_bd n
  by_cases h0 : bI n = 0
  · rw [h0]; simp
  · have hd : 1 ≤ digI (bI n) := by rw [digI_pos (by omega)]; have := (digI_bd (bI n / 2) (by omega)).1; omega
    have := Int.mul_le_mul_of_nonneg_left hd h.1
    omega
theorem sort_halves {n : Int} (h : 0 ≤ n) (h2 : n ≤ 5000000000) : addI (sortI n 0) (sortI n 0) ≤ sortI (n + n) 0 := by
  unfold addI sortI
  have hb0 : bI 0 = 0 := rfl
  rw [bI_id (n := n) h (by omega), bI_id (n := n + n) (by omega) (by omega), hb0, bI_bI]
  have hd := digI_bd n (by omega)
  have hm := mul_bd h (by omega) hd.1 hd.2
  rw [bI_add2 (by omega) (by omega)]
  refine bI_mono ?_
  have hk : digI n ≤ digI (n + n) := digI_mono (by omega)
  have := Int.mul_le_mul_of_nonneg_left hk (show 0 ≤ n + n by omega)
  have e : (n + n) * digI n = n * digI n + n * digI n := Int.add_mul _ _ _
  omega
end Go.Proofs.Ytnkfimpfnofhnaa

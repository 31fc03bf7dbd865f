/- What stands ahead of what, by keys: the contracts of sorter.Before and its reference. -/
import Derived.Test.YtahdkfenpflahaaSoL2
import Derived.Test.YtahdkfenpflahaaSoL1
import Derived.Deep.Cut
namespace Go.Proofs.Ytahdkfenpflahaa
set_option linter.unusedVariables false
open Go.ChangeShapes Go.WideShapes Go.ChangeAt Go.RowKit

def keyC (k : Int × Bool) : List Value := [.int .i64 k.1, .bool k.2]
abbrev KeysAt := SlAt keyC 2
def valD : ValV := ⟨0, 0, .empty⟩
/-- Does r stand ahead of s, by keys? -/
def befB (r s : List ValV) : List (Int × Bool) → Bool
  | [] => decide (cmpR r s < 0)
  | k :: ks => if k.1 < 0 ∨ (r.length : Int) ≤ k.1 ∨ (s.length : Int) ≤ k.1 then befB r s ks else
      if cmpV (r.getD k.1.toNat valD) (s.getD k.1.toNat valD) = 0 then befB r s ks else (decide (cmpV (r.getD k.1.toNat valD) (s.getD k.1.toNat valD) < 0) != k.2)
theorem befB_skip {r s : List ValV} {ks : List (Int × Bool)} {j : Nat} {a : Int} {d : Bool} (h : ks[j]? = some (a, d)) (ha : a < 0 ∨ (r.length : Int) ≤ a ∨ (s.length : Int) ≤ a) : befB r s (ks.drop j) = befB r s (ks.drop (j + 1)) := by
  rw [drop_at h, befB, if_pos ha]
theorem befB_level {r s : List ValV} {ks : List (Int × Bool)} {j i : Nat} {d : Bool} {u v : ValV} (h : ks[j]? = some ((i : Int), d)) (hu : r[i]? = some u) (hv : s[i]? = some v) (he : cmpV u v = 0) : befB r s (ks.drop j) = befB r s (ks.drop (j + 1)) := by
  have h1 := (List.getElem?_eq_some_iff.1 hu).1
  have h2 := (List.getElem?_eq_some_iff.1 hv).1
  rw [drop_at h, befB, if_neg (by simp only; omega)]
  simp only
  rw [show ((i : Int)).toNat = i from by omega, List.getD_eq_getElem?_getD, List.getD_eq_getElem?_getD, hu, hv]
  exact if_pos he
theorem befB_says {r s : List ValV} {ks : List (Int × Bool)} {j i : Nat} {d : Bool} {u v : ValV} (h : ks[j]? = some ((i : Int), d)) (hu : r[i]? = some u) (hv : s[i]? = some v) (he : ¬ cmpV u v = 0) : befB r s (ks.drop j) = (decide (cmpV u v < 0) != d) := by
  have h1 := (List.getElem?_eq_some_iff.1 hu).1
  have h2 := (List.getElem?_eq_some_iff.1 hv).1
  rw [drop_at h, befB, if_neg (by simp only; omega)]
  simp only
  rw [show ((i : Int)).toNat = i from by omega, List.getD_eq_getElem?_getD, List.getD_eq_getElem?_getD, hu, hv]
  exact if_neg he
theorem KeysAt.key {w : World} {B n c : Nat} {A : Option Addr} {l : List (Int × Bool)} (h : KeysAt w B A n c l) {i : Nat} (hi : i < n) :
    ∃ b off a d, A = some ⟨b, off, none⟩ ∧ b < B ∧ l[i]? = some (a, d) ∧ w.cell? ⟨b, off + i * 2, none⟩ = some (.int .i64 a) ∧ w.cell? ⟨b, off + i * 2 + 1, none⟩ = some (.bool d) := by
  obtain ⟨b, off, x, e, hb, hx, hc⟩ := h.at (by omega) hi
  exact ⟨b, off, x.1, x.2, e, hb, hx, hc 0 _ rfl, hc 1 _ rfl⟩
/-- A key in a block of its own. -/
def KBox (w : World) (g : Nat) (a : Int) (d : Bool) : Prop := w.heap[g]? = some (.cells #[.int .i64 a, .bool d] 41 (0, 0))
theorem KBox.cells {w : World} {g : Nat} {a : Int} {d : Bool} (h : KBox w g a d) : w.cell? ⟨g, 0, none⟩ = some (.int .i64 a) ∧ w.cell? ⟨g, 1, none⟩ = some (.bool d) := ⟨cell_of_row w g 0 _ _ (0, 0) h, cell_of_row w g 1 _ _ (0, 0) h⟩
theorem KBox.kept {w w' : World} {g : Nat} {a : Int} {d : Bool} (h : KBox w g a d) (hb : Below w.heap.size w w') : KBox w' g a d := (hb.block g (Array.getElem?_eq_some_iff.1 h).1).trans h
/-- A value that stands in memory. -/
structure ValAt (w : World) (b p : Nat) (k n : Int) (s : ByteArray) : Prop where
  lt : b < w.heap.size
  c0 : w.cell? ⟨b, p, none⟩ = some (.int .i64 k)
  c1 : w.cell? ⟨b, p + 1, none⟩ = some (.int .i64 n)
  c2 : w.cell? ⟨b, p + 2, none⟩ = some (.string s)
theorem ValAt.kept {w w' : World} {b p : Nat} {k n : Int} {s : ByteArray} (h : ValAt w b p k n s) (hb : Below w.heap.size w w') : ValAt w' b p k n s := by
  have e := hb.block b h.lt
  exact ⟨Nat.lt_of_lt_of_le h.lt hb.size, (World.cell?_of_block e).trans h.c0, (World.cell?_of_block e).trans h.c1, (World.cell?_of_block e).trans h.c2⟩
theorem RowAt.valAt {w : World} {n c : Nat} {A : Option Addr} {r : List ValV} (h : RowAt w w.heap.size A n c r) {i : Nat} (hi : i < n) :
    ∃ b off v, A = some ⟨b, off, none⟩ ∧ r[i]? = some v ∧ ValAt w b (off + i * 3) v.kind v.num v.str := by
  obtain ⟨b, off, v, e, hb, hv, c0, c1, c2⟩ := RowAt.val h hi
  exact ⟨b, off, v, e, hv, hb, c0, c1, c2⟩
set_option maxRecDepth 100000 in
set_option maxHeartbeats 2000000 in
theorem before_c (A A2 A3 : Option Addr) (n c n2 c2 n3 c3 : Nat) (r s : List ValV) (ks : List (Int × Bool)) (w : World) (h : RowAt w w.heap.size A n c r) (h2 : RowAt w w.heap.size A2 n2 c2 s) (hk : KeysAt w w.heap.size A3 n3 c3 ks) :
    Calls Try.prog 8 #[.slice A n c, .slice A2 n2 c2, .slice A3 n3 c3] w fun e w' => e = .returned (.bool (befB r s ks)) ∧ Below w.heap.size w w' := by
  have l1 := h.len
  have l2 := h2.len
  have l3 := hk.len
  have m1 := Nat.le_trans h.cap h.max
  have m2 := Nat.le_trans h2.cap h2.max
  have m3 := Nat.le_trans hk.cap hk.max
  unfold maxLen at m1 m2 m3
  have H := hide h
  have H2 := hide h2
  have H3 := hide hk
  clear h h2 hk
  go_enter Try.func8, Try.ntmps8
  go_wp2_with fail
  go_loopw [12] (fun i wr => ∃ k : Nat, k ≤ n3 ∧ i = .int .i64 k ∧ Hid (Below w.heap.size w wr) ∧ Hid (befB r s (ks.drop k) = befB r s ks)) (fun i _ => n3 - (intOf i).toNat)
  case atStart => exact ⟨0, Nat.zero_le _, rfl, Below.refl _ _, rfl⟩
  case round =>
    obtain ⟨k, hk, rfl, HB, HR⟩ := hrel
    by_cases hlt : k < n3
    · have hlti : (k : Int) < n3 := by omega
      have hwk : IntKind.i64.wrap ((k : Int) + 1) = (k : Int) + 1 := IntWalk.i64_in _ (by omega)
      obtain ⟨kb, koff, a, d, rfl, hkb, hka, k0, k1⟩ := KeysAt.key (H3.out.below HB.out) hlt
      replace HB := hide HB.out
      have HN : Hid ((a < 0 ∨ (r.length : Int) ≤ a ∨ (s.length : Int) ≤ a) → befB r s (ks.drop (k + 1)) = befB r s ks) := fun hh => (befB_skip hka hh).symm.trans HR.out
      go_upto_region 4 with (fail)
      have KB := hide (show KBox (wr.alloc (.cells #[.int .i64 a, .bool d] 41)) wr.heap.size a d from heap_alloc_new wr _)
      replace HB := hide (Bel.alloc HB.out (.cells #[.int .i64 a, .bool d] 41))
      have Ha := hide (H.out.below HB.out |>.more (by have := HB.out.size; exact this))
      have Hb := hide (H2.out.below HB.out |>.more (by have := HB.out.size; exact this))
      generalize wr.alloc (.cells #[.int .i64 a, .bool d] 41) = w1 at *
      generalize wr.heap.size = gk at *
      clear k0 k1
      obtain ⟨t_0, t_1⟩ := KB.out.cells
      by_cases g1 : a < 0
      · have HX := hide (HN.out (.inl g1))
        clear HN hka HR
        go_wp2_with fail
        go_roundw
        case rel => exact ⟨k + 1, by omega, by go_num, HB, HX⟩
        case measure => simp [intOf]; omega
      by_cases g2 : (n : Int) ≤ a
      · have HX := hide (HN.out (.inr (.inl (by rw [l1]; exact g2))))
        clear HN hka HR
        go_wp2_with fail
        go_roundw
        case rel => exact ⟨k + 1, by omega, by go_num, HB, HX⟩
        case measure => simp [intOf]; omega
      by_cases g3 : (n2 : Int) ≤ a
      · have HX := hide (HN.out (.inr (.inr (by rw [l2]; exact g3))))
        clear HN hka HR
        go_wp2_with fail
        go_roundw
        case rel => exact ⟨k + 1, by omega, by go_num, HB, HX⟩
        case measure => simp [intOf]; omega
      obtain ⟨i, rfl⟩ : ∃ i : Nat, a = i := ⟨a.toNat, by omega⟩
      have g4 : i < n := by omega
      have g5 : i < n2 := by omega
      have g4i : (i : Int) < n := by omega
      have g5i : (i : Int) < n2 := by omega
      obtain ⟨b, off, u, rfl, hu, Va⟩ := RowAt.valAt Ha.out g4
      obtain ⟨b2, off2, v, rfl, hv, Vb⟩ := RowAt.valAt Hb.out g5
      have HL : Hid (cmpV u v = 0 → befB r s (ks.drop (k + 1)) = befB r s ks) := fun he => (befB_level hka hu hv he).symm.trans HR.out
      have HS : Hid (¬ cmpV u v = 0 → befB r s ks = (decide (cmpV u v < 0) != d)) := fun he => HR.out.symm.trans (befB_says hka hu hv he)
      have Q := hide (fun W => order_c u v W)
      unfold valAgg at Q
      clear HN hka HR hu hv Ha Hb l1 l2 l3
      obtain ⟨uk, un, us⟩ := u
      obtain ⟨vk, vn, vs⟩ := v
      simp only at Q Va Vb
      generalize cmpV ⟨uk, un, us⟩ ⟨vk, vn, vs⟩ = x at *
      replace Va := hide Va
      replace Vb := hide Vb
      go_upto_region 5 with (fail)
      clear t_0 t_1
      refine wp_region_held_drew (S := (fun w' => KBox w' gk i d ∧ ValAt w' b (off + i * 3) uk un us ∧ ValAt w' b2 (off2 + i * 3) vk vn vs ∧ Below w.heap.size w w')) (by kernel_rfl) (⟨KB.out.kept (Below.refl _ _).drew, Va.out.kept (Below.refl _ _).drew, Vb.out.kept (Below.refl _ _).drew, HB.out.drew⟩) (fun hHeld => ?_)
      first | (refine wpAnyH_take (i := 0) (v := ?_) nth0 (by kernel_rfl) (by kernel_rfl) (by kernel_rfl) (fun _ _ _ h => h) (Or.inl ⟨by rfl, ?_⟩) hHeld ?_; rotate_left; focus (intro wS hSw; (obtain ⟨t_0, t_1⟩ := hSw.1.cells; obtain ⟨_, a_0, a_1, a_2⟩ := hSw.2.1; obtain ⟨_, b_0, b_1, b_2⟩ := hSw.2.2.1); go_simp; try with_reducible rfl; done)) | (refine wpAnyH_take (i := 0) (v := undef) nth0 (by kernel_rfl) (by kernel_rfl) (by kernel_rfl) (fun _ _ _ h => h) (Or.inr ⟨by rfl, rfl⟩) hHeld ?_)
      (try simp only [Act.put]); (try simp only [List.setIfInBounds_toArray]); (try simp only [List.set_cons_succ]); (try simp only [List.set_cons_zero])
      first | (refine wpAnyH_take (i := 1) (v := ?_) nth1 (by kernel_rfl) (by kernel_rfl) (by kernel_rfl) (fun _ _ _ h => h) (Or.inl ⟨by rfl, ?_⟩) hHeld ?_; rotate_left; focus (intro wS hSw; (obtain ⟨t_0, t_1⟩ := hSw.1.cells; obtain ⟨_, a_0, a_1, a_2⟩ := hSw.2.1; obtain ⟨_, b_0, b_1, b_2⟩ := hSw.2.2.1); go_simp; try with_reducible rfl; done)) | (refine wpAnyH_take (i := 1) (v := undef) nth1 (by kernel_rfl) (by kernel_rfl) (by kernel_rfl) (fun _ _ _ h => h) (Or.inr ⟨by rfl, rfl⟩) hHeld ?_)
      (try simp only [Act.put]); (try simp only [List.setIfInBounds_toArray]); (try simp only [List.set_cons_succ]); (try simp only [List.set_cons_zero])
      first | (refine wpAnyH_take (i := 2) (v := ?_) nth2 (by kernel_rfl) (by kernel_rfl) (by kernel_rfl) (fun _ _ _ h => h) (Or.inl ⟨by rfl, ?_⟩) hHeld ?_; rotate_left; focus (intro wS hSw; (obtain ⟨t_0, t_1⟩ := hSw.1.cells; obtain ⟨_, a_0, a_1, a_2⟩ := hSw.2.1; obtain ⟨_, b_0, b_1, b_2⟩ := hSw.2.2.1); go_simp; try with_reducible rfl; done)) | (refine wpAnyH_take (i := 2) (v := undef) nth2 (by kernel_rfl) (by kernel_rfl) (by kernel_rfl) (fun _ _ _ h => h) (Or.inr ⟨by rfl, rfl⟩) hHeld ?_)
      (try simp only [Act.put]); (try simp only [List.setIfInBounds_toArray]); (try simp only [List.set_cons_succ]); (try simp only [List.set_cons_zero])
      first | (refine wpAnyH_take (i := 3) (v := ?_) nth3 (by kernel_rfl) (by kernel_rfl) (by kernel_rfl) (fun _ _ _ h => h) (Or.inl ⟨by rfl, ?_⟩) hHeld ?_; rotate_left; focus (intro wS hSw; (obtain ⟨t_0, t_1⟩ := hSw.1.cells; obtain ⟨_, a_0, a_1, a_2⟩ := hSw.2.1; obtain ⟨_, b_0, b_1, b_2⟩ := hSw.2.2.1); go_simp; try with_reducible rfl; done)) | (refine wpAnyH_take (i := 3) (v := undef) nth3 (by kernel_rfl) (by kernel_rfl) (by kernel_rfl) (fun _ _ _ h => h) (Or.inr ⟨by rfl, rfl⟩) hHeld ?_)
      (try simp only [Act.put]); (try simp only [List.setIfInBounds_toArray]); (try simp only [List.set_cons_succ]); (try simp only [List.set_cons_zero])
      first | (refine wpAnyH_take (i := 4) (v := ?_) nth4 (by kernel_rfl) (by kernel_rfl) (by kernel_rfl) (fun _ _ _ h => h) (Or.inl ⟨by rfl, ?_⟩) hHeld ?_; rotate_left; focus (intro wS hSw; (obtain ⟨t_0, t_1⟩ := hSw.1.cells; obtain ⟨_, a_0, a_1, a_2⟩ := hSw.2.1; obtain ⟨_, b_0, b_1, b_2⟩ := hSw.2.2.1); go_simp; try with_reducible rfl; done)) | (refine wpAnyH_take (i := 4) (v := undef) nth4 (by kernel_rfl) (by kernel_rfl) (by kernel_rfl) (fun _ _ _ h => h) (Or.inr ⟨by rfl, rfl⟩) hHeld ?_)
      (try simp only [Act.put]); (try simp only [List.setIfInBounds_toArray]); (try simp only [List.set_cons_succ]); (try simp only [List.set_cons_zero])
      first | (refine wpAnyH_take (i := 5) (v := ?_) nth5 (by kernel_rfl) (by kernel_rfl) (by kernel_rfl) (fun _ _ _ h => h) (Or.inl ⟨by rfl, ?_⟩) hHeld ?_; rotate_left; focus (intro wS hSw; (obtain ⟨t_0, t_1⟩ := hSw.1.cells; obtain ⟨_, a_0, a_1, a_2⟩ := hSw.2.1; obtain ⟨_, b_0, b_1, b_2⟩ := hSw.2.2.1); go_simp; try with_reducible rfl; done)) | (refine wpAnyH_take (i := 5) (v := undef) nth5 (by kernel_rfl) (by kernel_rfl) (by kernel_rfl) (fun _ _ _ h => h) (Or.inr ⟨by rfl, rfl⟩) hHeld ?_)
      (try simp only [Act.put]); (try simp only [List.setIfInBounds_toArray]); (try simp only [List.set_cons_succ]); (try simp only [List.set_cons_zero])
      first | (refine wpAnyH_take (i := 6) (v := ?_) nth6 (by kernel_rfl) (by kernel_rfl) (by kernel_rfl) (fun _ _ _ h => h) (Or.inl ⟨by rfl, ?_⟩) hHeld ?_; rotate_left; focus (intro wS hSw; (obtain ⟨t_0, t_1⟩ := hSw.1.cells; obtain ⟨_, a_0, a_1, a_2⟩ := hSw.2.1; obtain ⟨_, b_0, b_1, b_2⟩ := hSw.2.2.1); go_simp; try with_reducible rfl; done)) | (refine wpAnyH_take (i := 6) (v := undef) nth6 (by kernel_rfl) (by kernel_rfl) (by kernel_rfl) (fun _ _ _ h => h) (Or.inr ⟨by rfl, rfl⟩) hHeld ?_)
      (try simp only [Act.put]); (try simp only [List.setIfInBounds_toArray]); (try simp only [List.set_cons_succ]); (try simp only [List.set_cons_zero])
      first | (refine wpAnyH_take (i := 7) (v := ?_) nth7 (by kernel_rfl) (by kernel_rfl) (by kernel_rfl) (fun _ _ _ h => h) (Or.inl ⟨by rfl, ?_⟩) hHeld ?_; rotate_left; focus (intro wS hSw; (obtain ⟨t_0, t_1⟩ := hSw.1.cells; obtain ⟨_, a_0, a_1, a_2⟩ := hSw.2.1; obtain ⟨_, b_0, b_1, b_2⟩ := hSw.2.2.1); go_simp; try with_reducible rfl; done)) | (refine wpAnyH_take (i := 7) (v := undef) nth7 (by kernel_rfl) (by kernel_rfl) (by kernel_rfl) (fun _ _ _ h => h) (Or.inr ⟨by rfl, rfl⟩) hHeld ?_)
      (try simp only [Act.put]); (try simp only [List.setIfInBounds_toArray]); (try simp only [List.set_cons_succ]); (try simp only [List.set_cons_zero])
      first | (refine wpAnyH_take (i := 8) (v := ?_) nth8 (by kernel_rfl) (by kernel_rfl) (by kernel_rfl) (fun _ _ _ h => h) (Or.inl ⟨by rfl, ?_⟩) hHeld ?_; rotate_left; focus (intro wS hSw; (obtain ⟨t_0, t_1⟩ := hSw.1.cells; obtain ⟨_, a_0, a_1, a_2⟩ := hSw.2.1; obtain ⟨_, b_0, b_1, b_2⟩ := hSw.2.2.1); go_simp; try with_reducible rfl; done)) | (refine wpAnyH_take (i := 8) (v := undef) nth8 (by kernel_rfl) (by kernel_rfl) (by kernel_rfl) (fun _ _ _ h => h) (Or.inr ⟨by rfl, rfl⟩) hHeld ?_)
      (try simp only [Act.put]); (try simp only [List.setIfInBounds_toArray]); (try simp only [List.set_cons_succ]); (try simp only [List.set_cons_zero])
      first | (refine wpAnyH_take (i := 9) (v := ?_) nth9 (by kernel_rfl) (by kernel_rfl) (by kernel_rfl) (fun _ _ _ h => h) (Or.inl ⟨by rfl, ?_⟩) hHeld ?_; rotate_left; focus (intro wS hSw; (obtain ⟨t_0, t_1⟩ := hSw.1.cells; obtain ⟨_, a_0, a_1, a_2⟩ := hSw.2.1; obtain ⟨_, b_0, b_1, b_2⟩ := hSw.2.2.1); go_simp; try with_reducible rfl; done)) | (refine wpAnyH_take (i := 9) (v := undef) nth9 (by kernel_rfl) (by kernel_rfl) (by kernel_rfl) (fun _ _ _ h => h) (Or.inr ⟨by rfl, rfl⟩) hHeld ?_)
      (try simp only [Act.put]); (try simp only [List.setIfInBounds_toArray]); (try simp only [List.set_cons_succ]); (try simp only [List.set_cons_zero])
      refine wpAnyH_ready (rs := [10]) (by kernel_rfl) (by simp) ?_
      refine AllReadyH.cons nth10 (fun K hK => ?_) AllReadyH.nil
      go_simp
      (go_at_call 22; refine (Q.out _).mono ?_; rintro e w' ⟨rfl, hb⟩)
      refine hK.out _ _ (⟨hHeld.1.kept hb, hHeld.2.1.kept hb, hHeld.2.2.1.kept hb, Bel.then hHeld.2.2.2 hb⟩) (fun hHeld => ?_)
      clear hK K
      (try simp only [Act.put]); (try simp only [List.setIfInBounds_toArray]); (try simp only [List.set_cons_succ]); (try simp only [List.set_cons_zero])
      first | (refine wpAnyH_take (i := 11) (v := ?_) nth11 (by kernel_rfl) (by kernel_rfl) (by kernel_rfl) (fun _ _ _ h => h) (Or.inl ⟨by rfl, ?_⟩) hHeld ?_; rotate_left; focus (intro wS hSw; (obtain ⟨t_0, t_1⟩ := hSw.1.cells; obtain ⟨_, a_0, a_1, a_2⟩ := hSw.2.1; obtain ⟨_, b_0, b_1, b_2⟩ := hSw.2.2.1); go_simp; try with_reducible rfl; done)) | (refine wpAnyH_take (i := 11) (v := undef) nth11 (by kernel_rfl) (by kernel_rfl) (by kernel_rfl) (fun _ _ _ h => h) (Or.inr ⟨by rfl, rfl⟩) hHeld ?_)
      (try simp only [Act.put]); (try simp only [List.setIfInBounds_toArray]); (try simp only [List.set_cons_succ]); (try simp only [List.set_cons_zero])
      refine wpAnyH_done (by kernel_rfl) ?_ _
      replace HB := hide hHeld.2.2.2
      obtain ⟨t_0, t_1⟩ := hHeld.1.cells
      clear hb hHeld Va Vb KB Q
      by_cases hx : x = 0
      · have HX := hide (HL.out hx)
        have f1 : (x != 0) = false := by simp [hx]
        clear hx HL HS
        go_wp2_with fail
        go_roundw
        case rel => exact ⟨k + 1, by omega, by go_num, HB, HX⟩
        case measure => simp [intOf]; omega
      · have HX := hide (HS.out hx)
        have f1 : (x != 0) = true := by simp [hx]
        clear hx HL HS
        by_cases f2 : x < 0
        · have HY : Hid (befB r s ks = (true != d)) := by rw [HX.out, decide_eq_true f2]; rfl
          clear HX
          go_wp2_with fail
          go_ret
          exact ⟨ret_bool (by rw [HY.out]; first | rfl | (simp; done) | (cases d <;> rfl)), HB.out⟩
        · have HY : Hid (befB r s ks = (false != d)) := by rw [HX.out, decide_eq_false f2]; rfl
          clear HX
          go_wp2_with fail
          go_ret
          exact ⟨ret_bool (by rw [HY.out]; first | rfl | (simp; done) | (cases d <;> rfl)), HB.out⟩
    · have hlti : ¬ (k : Int) < n3 := by omega
      have hd : befB r s (ks.drop k) = decide (cmpR r s < 0) := by rw [List.drop_of_length_le (by omega)]; rfl
      have HX := hide (HR.out.symm.trans hd)
      have Q := hide (orders_c A A2 n c n2 c2 r s wr (H.out.below HB.out |>.more (by have := HB.out.size; exact this)) (H2.out.below HB.out |>.more (by have := HB.out.size; exact this)))
      clear hd HR
      generalize cmpR r s = x at *
      go_wp2_with fail
      refine Q.out.mono ?_
      rintro e w' ⟨rfl, hb⟩
      replace HB := hide (Bel.then HB.out hb)
      clear hb Q
      go_wp2_with fail
      go_ret
      exact ⟨ret_bool (by rw [HX.out]), HB.out⟩
end Go.Proofs.Ytahdkfenpflahaa

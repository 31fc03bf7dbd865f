/- The walks of TriSays and TriLists. -/
import Derived.Test.YtdcekohimakpeaaTriA
import Derived.Test.YtdcekohimakpeaaTriSaysFrame
import Derived.Test.YtdcekohimakpeaaTriListsFrame
namespace Go.Proofs.Ytdcekohimakpeaa
open Go.ChangeShapes Go.WideShapes Go.ChangeAt Go.RowKit Go.Joins

def allI (zs : List Int) : Int := zs.foldl andI 2
def anyI (zs : List Int) : Int := zs.foldl orI 0
theorem allI_step {zs : List Int} {k : Nat} {z : Int} (h : zs.take (k + 1) = zs.take k ++ [z]) : andI (allI (zs.take k)) z = allI (zs.take (k + 1)) := by rw [h]; simp [allI]
theorem anyI_step {zs : List Int} {k : Nat} {z : Int} (h : zs.take (k + 1) = zs.take k ++ [z]) : orI (anyI (zs.take k)) z = anyI (zs.take (k + 1)) := by rw [h]; simp [anyI]

theorem all_tri (A : Option Addr) (n c : Nat) (zs : List Int) (B : Nat) (w : World) (hz : Ints w B A n zs) (hm : n ≤ maxLen) :
    Calls Try.prog 22 #[.slice A n c] w fun e w' => e = .returned (.int .i64 (allI zs)) ∧ w = w' := by
  unfold maxLen at hm
  have HL := hide hz.1
  have HZ := hide hz
  clear hz
  go_enter Try.func22, Try.ntmps22
  go_wp2
  go_loop [3, 5, 8] (fun a _ i => ∃ k : Nat, k ≤ n ∧ i = .int .i64 k ∧ a = .int .i64 (allI (zs.take k))) (fun _ _ i => n - (intOf i).toNat)
  case atStart => exact ⟨0, Nat.zero_le _, rfl, rfl⟩
  case round =>
    obtain ⟨k, hk, rfl, rfl⟩ := hrel
    by_cases hlt : k < n
    · obtain ⟨b, off, z, rfl, hb, hck, HT, _⟩ := HZ.out.get hlt
      go_wp2_with (first | (go_at_call 14; refine (and14 _ _ _).mono ?_; rintro e w' ⟨rfl, rfl⟩))
      go_round
      case rel => exact ⟨k + 1, by omega, by go_num, by rw [allI_step HT.out]⟩
      case measure => simp [intOf]; omega
    · go_wp2_with (first | (go_at_call 14; refine (and14 _ _ _).mono ?_; rintro e w' ⟨rfl, rfl⟩))
      go_ret
      exact ⟨ret_int (by rw [List.take_of_length_le (by rw [HL.out]; omega)]), rfl⟩
theorem any_tri (A : Option Addr) (n c : Nat) (zs : List Int) (B : Nat) (w : World) (hz : Ints w B A n zs) (hm : n ≤ maxLen) :
    Calls Try.prog 24 #[.slice A n c] w fun e w' => e = .returned (.int .i64 (anyI zs)) ∧ w = w' := by
  unfold maxLen at hm
  have HL := hide hz.1
  have HZ := hide hz
  clear hz
  go_enter Try.func24, Try.ntmps24
  go_wp2
  go_loop [3, 5, 8] (fun a _ i => ∃ k : Nat, k ≤ n ∧ i = .int .i64 k ∧ a = .int .i64 (anyI (zs.take k))) (fun _ _ i => n - (intOf i).toNat)
  case atStart => exact ⟨0, Nat.zero_le _, rfl, rfl⟩
  case round =>
    obtain ⟨k, hk, rfl, rfl⟩ := hrel
    by_cases hlt : k < n
    · obtain ⟨b, off, z, rfl, hb, hck, HT, _⟩ := HZ.out.get hlt
      go_wp2_with (first | (go_at_call 16; refine (or16 _ _ _).mono ?_; rintro e w' ⟨rfl, rfl⟩))
      go_round
      case rel => exact ⟨k + 1, by omega, by go_num, by rw [anyI_step HT.out]⟩
      case measure => simp [intOf]; omega
    · go_wp2_with (first | (go_at_call 16; refine (or16 _ _ _).mono ?_; rintro e w' ⟨rfl, rfl⟩))
      go_ret
      exact ⟨ret_int (by rw [List.take_of_length_le (by rw [HL.out]; omega)]), rfl⟩
theorem all_ref (A : Option Addr) (n c : Nat) (zs : List Int) (B : Nat) (w : World) (hz : Ints w B A n zs) (hm : n ≤ maxLen) :
    Calls Try.prog 23 #[.slice A n c] w fun e w' => e = .returned (.int .i64 (allI zs)) ∧ w = w' := by
  unfold maxLen at hm
  have HL := hide hz.1
  have HZ := hide hz
  clear hz
  go_enter Try.func23, Try.ntmps23
  go_wp2
  go_loop [3, 4] (fun a i => ∃ k : Nat, k ≤ n ∧ i = .int .i64 k ∧ a = .int .i64 (allI (zs.take k))) (fun _ i => n - (intOf i).toNat)
  case atStart => exact ⟨0, Nat.zero_le _, rfl, rfl⟩
  case round =>
    obtain ⟨k, hk, rfl, rfl⟩ := hrel
    by_cases hlt : k < n
    · obtain ⟨b, off, z, rfl, hb, hck, HT, _⟩ := HZ.out.get hlt
      go_wp2_with (first | (go_at_call 15; refine (and15 _ _ _).mono ?_; rintro e w' ⟨rfl, rfl⟩))
      go_round
      case rel => exact ⟨k + 1, by omega, by go_num, by rw [allI_step HT.out]⟩
      case measure => simp [intOf]; omega
    · go_wp2_with (first | (go_at_call 15; refine (and15 _ _ _).mono ?_; rintro e w' ⟨rfl, rfl⟩))
      go_ret
      exact ⟨ret_int (by rw [List.take_of_length_le (by rw [HL.out]; omega)]), rfl⟩
theorem any_ref (A : Option Addr) (n c : Nat) (zs : List Int) (B : Nat) (w : World) (hz : Ints w B A n zs) (hm : n ≤ maxLen) :
    Calls Try.prog 25 #[.slice A n c] w fun e w' => e = .returned (.int .i64 (anyI zs)) ∧ w = w' := by
  unfold maxLen at hm
  have HL := hide hz.1
  have HZ := hide hz
  clear hz
  go_enter Try.func25, Try.ntmps25
  go_wp2
  go_loop [3, 4] (fun a i => ∃ k : Nat, k ≤ n ∧ i = .int .i64 k ∧ a = .int .i64 (anyI (zs.take k))) (fun _ i => n - (intOf i).toNat)
  case atStart => exact ⟨0, Nat.zero_le _, rfl, rfl⟩
  case round =>
    obtain ⟨k, hk, rfl, rfl⟩ := hrel
    by_cases hlt : k < n
    · obtain ⟨b, off, z, rfl, hb, hck, HT, _⟩ := HZ.out.get hlt
      go_wp2_with (first | (go_at_call 17; refine (or17 _ _ _).mono ?_; rintro e w' ⟨rfl, rfl⟩))
      go_round
      case rel => exact ⟨k + 1, by omega, by go_num, by rw [anyI_step HT.out]⟩
      case measure => simp [intOf]; omega
    · go_wp2_with (first | (go_at_call 17; refine (or17 _ _ _).mono ?_; rintro e w' ⟨rfl, rfl⟩))
      go_ret
      exact ⟨ret_int (by rw [List.take_of_length_le (by rw [HL.out]; omega)]), rfl⟩

theorem isI_eq (a : Int) : ((decide (a = 0 ∨ a = 1 ∨ a = 2)) != (decide (a = 0 ∨ a = 1 ∨ a = 2))) = false := by simp
set_option maxHeartbeats 1000000 in
theorem says_walk (a b k n : Int) (s : ByteArray) (w : World) : Calls Try.prog 3 #[.int .i64 a, .int .i64 b, .agg #[.int .i64 k, .int .i64 n, .string s]] w fun e w' => e = .returned (.bool true) ∧ Below w.heap.size w w' := by
  obtain ⟨x, y, hv⟩ : ∃ x y, valueV a = .agg #[.int .i64 x, .int .i64 y, .string ⟨#[]⟩] := ⟨_, _, rfl⟩
  have HV := hide hv
  clear hv
  go_enter Try.func3, Try.ntmps3
  go_wp2_with (first | (go_at_call 7; refine (awake7 _).mono ?_; rintro e w' ⟨rfl, hb1⟩) | (go_at_call 8; refine (is8 _ _).mono ?_; rintro e w' ⟨rfl, rfl⟩) | (go_at_call 9; refine (is9 _ _).mono ?_; rintro e w' ⟨rfl, rfl⟩) | (go_at_call 10; refine (of10 _ _).mono ?_; rintro e w' ⟨rfl, rfl⟩) | (go_at_call 11; refine (of11 _ _).mono ?_; rintro e w' ⟨rfl, rfl⟩) | (go_at_call 12; refine (not12 _ _).mono ?_; rintro e w' ⟨rfl, rfl⟩) | (go_at_call 13; refine (not13 _ _).mono ?_; rintro e w' ⟨rfl, rfl⟩) | (go_at_call 14; refine (and14 _ _ _).mono ?_; rintro e w' ⟨rfl, rfl⟩) | (go_at_call 15; refine (and15 _ _ _).mono ?_; rintro e w' ⟨rfl, rfl⟩) | (go_at_call 16; refine (or16 _ _ _).mono ?_; rintro e w' ⟨rfl, rfl⟩) | (go_at_call 17; refine (or17 _ _ _).mono ?_; rintro e w' ⟨rfl, rfl⟩))
  all_goals
    obtain ⟨c0, c1, c2⟩ := box3 w (.int .i64 k) (.int .i64 n) (.string s) 23
    have h0 := Bel.then (Bel.one w (.cells #[.int .i64 k, .int .i64 n, .string s] 23)) hb1
    have d0 := kept hb1 c0
    have d1 := kept hb1 c1
    have d2 := kept hb1 c2
    clear c0 c1 c2 hb1
    go_region_held3 (fun w' => Below w.heap.size w w' ∧ w'.cell? ⟨w.heap.size, 0, none⟩ = some (.int .i64 k) ∧ w'.cell? ⟨w.heap.size, 1, none⟩ = some (.int .i64 n) ∧ w'.cell? ⟨w.heap.size, 2, none⟩ = some (.string s))
      (first | exact ⟨h0.drew, d0, d1, d2⟩ | (go_split_ands; exact keep3 hb ‹_› ‹_› ‹_› ‹_›) | assumption)
      (first | (go_at_call 14; refine (and14 _ _ _).mono ?_; rintro e w' ⟨rfl, rfl⟩) | (go_at_call 15; refine (and15 _ _ _).mono ?_; rintro e w' ⟨rfl, rfl⟩) | (go_at_call 16; refine (or16 _ _ _).mono ?_; rintro e w' ⟨rfl, rfl⟩) | (go_at_call 17; refine (or17 _ _ _).mono ?_; rintro e w' ⟨rfl, rfl⟩) | (go_at_call 18; refine (value18 _ _).mono ?_; rw [HV.out]; rintro e w' ⟨rfl, hb⟩) | (go_at_call 19; refine (value19 _ _).mono ?_; rw [HV.out]; rintro e w' ⟨rfl, hb⟩) | (go_at_call 20; refine (from20 _ _ _ _).mono ?_; rintro e w' ⟨rfl, hb⟩) | (go_at_call 21; refine (from21 _ _ _ _).mono ?_; rintro e w' ⟨rfl, hb⟩))
    go_wp2
    go_ret
    go_split_ands
    exact ⟨rfl, by assumption⟩

theorem fold_bd (f : Int → Int → Int) (hf : ∀ a b, 0 ≤ f a b ∧ f a b ≤ 2) : ∀ (l : List Int) (a : Int), 0 ≤ a → a ≤ 2 → 0 ≤ l.foldl f a ∧ l.foldl f a ≤ 2 := by
  intro l
  induction l with
  | nil => intro a h0 h2; exact ⟨h0, h2⟩
  | cons x l ih => intro a _ _; exact ih _ (hf a x).1 (hf a x).2
theorem fold_app (f : Int → Int → Int) (u : Int) (hu : 0 ≤ u ∧ u ≤ 2) (hf : ∀ a b, 0 ≤ f a b ∧ f a b ≤ 2) (hass : ∀ a b c, f a (f b c) = f (f a b) c) (hid : ∀ a, 0 ≤ a → a ≤ 2 → f a u = a) (xs ys : List Int) :
    (xs ++ ys).foldl f u = f (xs.foldl f u) (ys.foldl f u) := by
  rw [List.foldl_append]
  have key : ∀ (l : List Int) (a : Int), 0 ≤ a → a ≤ 2 → l.foldl f a = f a (l.foldl f u) := by
    intro l
    induction l with
    | nil => intro a h0 h2; exact (hid a h0 h2).symm
    | cons x l ih =>
      intro a h0 h2
      simp only [List.foldl_cons]
      rw [ih (f a x) (hf a x).1 (hf a x).2, ih (f u x) (hf u x).1 (hf u x).2, hass, hass, hid a h0 h2]
  have := fold_bd f hf xs u hu.1 hu.2
  exact key ys _ this.1 this.2
theorem allI_app (xs ys : List Int) : allI (xs ++ ys) = andI (allI xs) (allI ys) :=
  fold_app andI 2 (by omega) and_bd joins_aa (fun a h0 h2 => by have := sure_of h0 h2; have e : sureI 2 = 2 := rfl; unfold andI; rw [this, e]; split <;> omega) xs ys
theorem anyI_app (xs ys : List Int) : anyI (xs ++ ys) = orI (anyI xs) (anyI ys) :=
  fold_app orI 0 (by omega) or_bd joins_oo (fun a h0 h2 => by have := sure_of h0 h2; have e : sureI 0 = 0 := rfl; unfold orI; rw [this, e]; split <;> omega) xs ys

theorem int_info : (Try.prog.info? 3).map (fun i => (i.zero, i.size, i.bytes)) = some (some (.int .i64 0), 1, 8) := by kernel_rfl
set_option maxHeartbeats 1000000 in
theorem lists_walk (A B : Option Addr) (n m c d : Nat) (xs ys : List Int) (w : World) (hx : Ints w w.heap.size A n xs) (hy : Ints w w.heap.size B m ys) (hn : n ≤ 1048576) (hm : m ≤ 1048576) (hA : A = none → n = 0) (hB : B = none → m = 0) :
    Calls Try.prog 4 #[.slice A n c, .slice B m d] w fun e w' => e = .returned (.bool true) ∧ Below w.heap.size w w' := by
  obtain ⟨i0, hi0, hz0, hz1, hz2⟩ := info_parts int_info
  have HX := hide hx
  have HY := hide hy
  clear hx hy
  have e1 : (allI (xs ++ ys) == andI (allI xs) (allI ys)) = true := by rw [allI_app]; simp
  have e2 : (anyI (xs ++ ys) == orI (anyI xs) (anyI ys)) = true := by rw [anyI_app]; simp
  have hb0 := Bel.one w (.cells #[] 3)
  go_enter Try.func4, Try.ntmps4
  go_wp2_with (first
    | (at_builtin; refine wpList_app rfl (.tmp 6) (.tmp 7) 32 rfl w.heap.size 3 i0 _ 1 8 Try.underlying32 hi0 hz0 hz1 hz2 rfl (by omega) _ 0 [] rfl (World.ownsRow_lit _ _ 0 (Nat.le_refl _) (by simp only [maxLen]; omega) rfl) w.heap.size A n c (xs.map (.int .i64)) rfl (by simp [HX.out.1]) (HX.out.2.below hb0) (by simp [Value.oneCell']) (by simp only [maxLen]; omega) (by omega) (by simp) hA ?_; intro v1 w1 hown1 hg1 hat1; have hk1 := hide (own_next hat1 (own_new _ _ _ _ (Nat.le_refl _)) hb0.size); have hb1 := hide (own_grown hb0 hg1 (own_new _ _ _ _ (Nat.le_refl _))); clear hg1 hat1)
    | (at_builtin; refine wpList_app rfl (.tmp 8) (.tmp 9) 32 rfl w.heap.size 3 i0 _ 1 8 Try.underlying32 hi0 hz0 hz1 hz2 rfl (by omega) v1 (0 + n) _ rfl hown1 w.heap.size B m d (ys.map (.int .i64)) rfl (by simp [HY.out.1]) (HY.out.2.below hb1.out) (by simp [Value.oneCell']) (by simp only [maxLen]; omega) (by omega) hb1.out.size hB ?_; intro v2 w2 hown2 hg2 hat2
       obtain ⟨A2, c2, rfl, hc2, hA2, hC2⟩ := own_form hown2
       have hb2 := hide (own_grown hb1.out hg2 hk1.out)
       have hI2 : Hid (Ints w2 w2.heap.size A2 (n + m) (xs ++ ys)) := ⟨by simp [HX.out.1, HY.out.1], by simpa using hC2⟩
       clear hat2 hown1 hown2 hg2 hC2)
    | (go_at_call 7; refine (awake7 _).mono ?_; rintro e w3 ⟨rfl, hb3⟩; have HB3 := hide (hb2.out.trans (hb3.mono hb2.out.size)); have IA := hide (HX.out.below HB3.out); have IB := hide (HY.out.below HB3.out); have IC := hide (hI2.out.below hb3); clear hb3 hb2 HX HY hI2)
    | (go_at_call 22; refine (all_tri _ _ _ _ _ _ (by first | exact IA.out | exact IB.out | exact IC.out) (by simp only [maxLen]; omega)).mono ?_; rintro e w' ⟨rfl, rfl⟩)
    | (go_at_call 23; refine (all_ref _ _ _ _ _ _ (by first | exact IA.out | exact IB.out | exact IC.out) (by simp only [maxLen]; omega)).mono ?_; rintro e w' ⟨rfl, rfl⟩)
    | (go_at_call 24; refine (any_tri _ _ _ _ _ _ (by first | exact IA.out | exact IB.out | exact IC.out) (by simp only [maxLen]; omega)).mono ?_; rintro e w' ⟨rfl, rfl⟩)
    | (go_at_call 25; refine (any_ref _ _ _ _ _ _ (by first | exact IA.out | exact IB.out | exact IC.out) (by simp only [maxLen]; omega)).mono ?_; rintro e w' ⟨rfl, rfl⟩)
    | (go_at_call 14; refine (and14 _ _ _).mono ?_; rintro e w' ⟨rfl, rfl⟩)
    | (go_at_call 16; refine (or16 _ _ _).mono ?_; rintro e w' ⟨rfl, rfl⟩))
  go_ret
  exact ⟨rfl, HB3.out⟩
end Go.Proofs.Ytdcekohimakpeaa

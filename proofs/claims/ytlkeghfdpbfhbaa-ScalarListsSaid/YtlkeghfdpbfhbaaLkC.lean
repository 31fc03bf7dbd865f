/- The contract of like.elements: the walk. -/
import Derived.Test.YtlkeghfdpbfhbaaLkB
namespace Go.Proofs.Ytlkeghfdpbfhbaa
set_option linter.unusedVariables false
open Go.ChangeShapes Go.WideShapes Go.ChangeAt Go.RowKit

set_option maxRecDepth 100000 in
set_option maxHeartbeats 1000000 in
theorem elements_c (s : ByteArray) (w : World) (hm : s.size ≤ 1048576) : Calls Try.prog 88 #[.string s] w (GivesE w (signsL s.data.toList)) := by
  obtain ⟨i0, hi0, hz0, hz1, hz2⟩ := info_parts el_info
  go_enter Try.func88, Try.ntmps88
  go_wp2_with (at_make; refine wpList_make_own _ rfl (.const (.int .i64 0)) (.tmp 6) 77 rfl w.heap.size 80 i0 _ 2 Try.underlying77 hi0 hz0 hz1 .i64 .i64 s.size s.size rfl rfl rfl (by rw [hz2]; omega) (by unfold maxLen; omega) (Nat.le_refl _) ?_; intro w1 hown1 hg1)
  have HI := hide (show ElsAt w s 0 (.slice (some ⟨w.heap.size, 0, none⟩) 0 s.size) w1 from ⟨[], rfl, Nat.le_refl _, hown1, (Below.refl _ _).grown hg1 (Nat.le_refl _) (fun k hk => by cases hk)⟩)
  clear hown1 hg1
  go_loopw [3, 4] (fun v i wr => ∃ k : Nat, k ≤ s.size ∧ i = .int .i64 k ∧ Hid (ElsAt w s k v wr)) (fun _ i _ => s.size - (intOf i).toNat)
  case atStart => exact ⟨0, Nat.zero_le _, rfl, HI⟩
  case round =>
    clear HI
    obtain ⟨k, hk, rfl, HI⟩ := hrel
    by_cases hlt : k < s.size
    · obtain ⟨l, hl, hlk, hown, hb⟩ := HI.out
      rcases sign_step hlt with ⟨h1, h2⟩ | ⟨h1, h2⟩ | ⟨h3, h1, h4, h2⟩ | ⟨h1, h3, h4, h2⟩
      · have c1 : ((s[k].toNat : Int) == 37) = true := by rw [h1]; rfl
        have HO := hide hown
        have HB := hide hb
        have HL := hide hl
        have HS2 := hide h2
        clear hown hb hl h2 HI
        go_wp2_with (at_builtin; refine wpList_app rfl (.tmp 26) (.tmp 28) 77 rfl w.heap.size 80 i0 _ 2 16 Try.underlying77 hi0 hz0 hz1 hz2 rfl (by omega) _ l.length _ rfl (HO.out.alloc _) _ _ 1 1 (elC (.all)) rfl rfl (cells_lit wr #[.int .i64 2, .int .u8 0] 80) (by simp [elC, Value.oneCell']) (by simp only [maxLen]; omega) (by omega) (by have := HB.out.size; first | (simp; done) | (simp; omega)) (by simp) ?_; intro v4 w4 hown4 hg4 _)
        have HI4 := hide (show ElsAt w s (k + 1) v4 w4 from ⟨l ++ [.all], by rw [List.append_assoc, ← HL.out]; exact congrArg (l ++ ·) HS2.out.symm, by rw [List.length_append]; simp; omega, by have := hown4; simpa using this, (HB.out.alloc HB.out.size _).grown hg4 (by have := HB.out.size; rw [World.size_alloc]; omega) (fun q hq => (HO.out.lt q hq).1)⟩)
        clear hown4 hg4 HO HB HL HS2
        go_wp2_with fail
        go_roundw
        case rel => exact ⟨k + 1, by omega, by go_num, HI4⟩
        case measure => simp [intOf]; omega
      · have c1 : ((s[k].toNat : Int) == 37) = false := by rw [h1]; rfl
        have c2 : ((s[k].toNat : Int) == 95) = true := by rw [h1]; rfl
        have HO := hide hown
        have HB := hide hb
        have HL := hide hl
        have HS2 := hide h2
        clear hown hb hl h2 HI
        go_wp2_with (at_builtin; refine wpList_app rfl (.tmp 35) (.tmp 37) 77 rfl w.heap.size 80 i0 _ 2 16 Try.underlying77 hi0 hz0 hz1 hz2 rfl (by omega) _ l.length _ rfl (HO.out.alloc _) _ _ 1 1 (elC (.one)) rfl rfl (cells_lit wr #[.int .i64 1, .int .u8 0] 80) (by simp [elC, Value.oneCell']) (by simp only [maxLen]; omega) (by omega) (by have := HB.out.size; first | (simp; done) | (simp; omega)) (by simp) ?_; intro v4 w4 hown4 hg4 _)
        have HI4 := hide (show ElsAt w s (k + 1) v4 w4 from ⟨l ++ [.one], by rw [List.append_assoc, ← HL.out]; exact congrArg (l ++ ·) HS2.out.symm, by rw [List.length_append]; simp; omega, by have := hown4; simpa using this, (HB.out.alloc HB.out.size _).grown hg4 (by have := HB.out.size; rw [World.size_alloc]; omega) (fun q hq => (HO.out.lt q hq).1)⟩)
        clear hown4 hg4 HO HB HL HS2
        go_wp2_with fail
        go_roundw
        case rel => exact ⟨k + 1, by omega, by go_num, HI4⟩
        case measure => simp [intOf]; omega
      · have c1 : ((s[k].toNat : Int) == 37) = false := by rw [h1]; rfl
        have c2 : ((s[k].toNat : Int) == 95) = false := by rw [h1]; rfl
        have c3 : ((s[k].toNat : Int) == 92) = true := by rw [h1]; rfl
        have h3i : (k : Int) + 1 < s.size := by omega
        have hw : IntKind.i64.wrap ((k : Int) + 1) = (k : Int) + 1 := IntWalk.i64_in _ (by omega)
        have Q := hide (fun W => special_c s[k + 1] W)
        rw [h4] at Q
        clear h1 h4
        have HO := hide hown
        have HB := hide hb
        have HL := hide hl
        have HS2 := hide h2
        clear hown hb hl h2 HI
        go_wp2_with fail
        refine (Q.out _).mono ?_
        rintro e w2 ⟨rfl, rfl⟩
        clear Q
        go_wp2_with (at_builtin; refine wpList_app rfl (.tmp 60) (.tmp 65) 77 rfl w.heap.size 80 i0 _ 2 16 Try.underlying77 hi0 hz0 hz1 hz2 rfl (by omega) _ l.length _ rfl (HO.out.alloc _) _ _ 1 1 (elC (.byte s[k + 1])) rfl rfl (cells_lit wr #[.int .i64 0, .int .u8 s[k + 1].toNat] 80) (by simp [elC, Value.oneCell']) (by simp only [maxLen]; omega) (by omega) (by have := HB.out.size; first | (simp; done) | (simp; omega)) (by simp) ?_; intro v4 w4 hown4 hg4 _)
        have HI4 := hide (show ElsAt w s (k + 1 + 1) v4 w4 from ⟨l ++ [.byte s[k + 1]], by rw [List.append_assoc, ← HL.out]; exact congrArg (l ++ ·) HS2.out.symm, by rw [List.length_append]; simp; omega, by have := hown4; simpa using this, (HB.out.alloc HB.out.size _).grown hg4 (by have := HB.out.size; rw [World.size_alloc]; omega) (fun q hq => (HO.out.lt q hq).1)⟩)
        clear hown4 hg4 HO HB HL HS2
        go_wp2_with fail
        go_roundw
        case rel => exact ⟨k + 1 + 1, by omega, by go_num, HI4⟩
        case measure => simp [intOf]; omega
      · have c1 : ((s[k].toNat : Int) == 37) = false := by rw [show ((s[k].toNat : Int) == 37) = (s[k] == UInt8.ofNat 37) from byte_eq s[k] 37 (by omega)]; simpa using h1
        have c2 : ((s[k].toNat : Int) == 95) = false := by rw [show ((s[k].toNat : Int) == 95) = (s[k] == UInt8.ofNat 95) from byte_eq s[k] 95 (by omega)]; simpa using h3
        have hw : IntKind.i64.wrap ((k : Int) + 1) = (k : Int) + 1 := IntWalk.i64_in _ (by omega)
        clear h1 h3
        have HO := hide hown
        have HB := hide hb
        have HL := hide hl
        have HS2 := hide h2
        clear hown hb hl h2 HI
        by_cases h9 : s[k] = 92
        · have c3 : ((s[k].toNat : Int) == 92) = true := by rw [h9]; rfl
          rcases h4 with h4 | h4 | ⟨h4, h5⟩
          · exact absurd h9 h4
          · have h4i : ¬ (k : Int) + 1 < s.size := by omega
            clear h9 h4
            go_wp2_with (at_builtin; refine wpList_app rfl (.tmp 14) (.tmp 19) 77 rfl w.heap.size 80 i0 _ 2 16 Try.underlying77 hi0 hz0 hz1 hz2 rfl (by omega) _ l.length _ rfl (HO.out.alloc _) _ _ 1 1 (elC (.byte s[k])) rfl rfl (cells_lit wr #[.int .i64 0, .int .u8 s[k].toNat] 80) (by simp [elC, Value.oneCell']) (by simp only [maxLen]; omega) (by omega) (by have := HB.out.size; first | (simp; done) | (simp; omega)) (by simp) ?_; intro v4 w4 hown4 hg4 _)
            have HI4 := hide (show ElsAt w s (k + 1) v4 w4 from ⟨l ++ [.byte s[k]], by rw [List.append_assoc, ← HL.out]; exact congrArg (l ++ ·) HS2.out.symm, by rw [List.length_append]; simp; omega, by have := hown4; simpa using this, (HB.out.alloc HB.out.size _).grown hg4 (by have := HB.out.size; rw [World.size_alloc]; omega) (fun q hq => (HO.out.lt q hq).1)⟩)
            clear hown4 hg4 HO HB HL HS2
            go_wp2_with fail
            go_roundw
            case rel => exact ⟨k + 1, by omega, by go_num, HI4⟩
            case measure => simp [intOf]; omega
          · have h4i : (k : Int) + 1 < s.size := by omega
            have Q := hide (fun W => special_c s[k + 1] W)
            rw [h5] at Q
            clear h9 h5
            go_wp2_with fail
            refine (Q.out _).mono ?_
            rintro e w2 ⟨rfl, rfl⟩
            clear Q
            go_wp2_with (at_builtin; refine wpList_app rfl (.tmp 14) (.tmp 19) 77 rfl w.heap.size 80 i0 _ 2 16 Try.underlying77 hi0 hz0 hz1 hz2 rfl (by omega) _ l.length _ rfl (HO.out.alloc _) _ _ 1 1 (elC (.byte s[k])) rfl rfl (cells_lit wr #[.int .i64 0, .int .u8 s[k].toNat] 80) (by simp [elC, Value.oneCell']) (by simp only [maxLen]; omega) (by omega) (by have := HB.out.size; first | (simp; done) | (simp; omega)) (by simp) ?_; intro v4 w4 hown4 hg4 _)
            have HI4 := hide (show ElsAt w s (k + 1) v4 w4 from ⟨l ++ [.byte s[k]], by rw [List.append_assoc, ← HL.out]; exact congrArg (l ++ ·) HS2.out.symm, by rw [List.length_append]; simp; omega, by have := hown4; simpa using this, (HB.out.alloc HB.out.size _).grown hg4 (by have := HB.out.size; rw [World.size_alloc]; omega) (fun q hq => (HO.out.lt q hq).1)⟩)
            clear hown4 hg4 HO HB HL HS2
            go_wp2_with fail
            go_roundw
            case rel => exact ⟨k + 1, by omega, by go_num, HI4⟩
            case measure => simp [intOf]; omega
        · have c3 : ((s[k].toNat : Int) == 92) = false := by rw [show ((s[k].toNat : Int) == 92) = (s[k] == UInt8.ofNat 92) from byte_eq s[k] 92 (by omega)]; simpa using h9
          clear h9 h4
          go_wp2_with (at_builtin; refine wpList_app rfl (.tmp 14) (.tmp 19) 77 rfl w.heap.size 80 i0 _ 2 16 Try.underlying77 hi0 hz0 hz1 hz2 rfl (by omega) _ l.length _ rfl (HO.out.alloc _) _ _ 1 1 (elC (.byte s[k])) rfl rfl (cells_lit wr #[.int .i64 0, .int .u8 s[k].toNat] 80) (by simp [elC, Value.oneCell']) (by simp only [maxLen]; omega) (by omega) (by have := HB.out.size; first | (simp; done) | (simp; omega)) (by simp) ?_; intro v4 w4 hown4 hg4 _)
          have HI4 := hide (show ElsAt w s (k + 1) v4 w4 from ⟨l ++ [.byte s[k]], by rw [List.append_assoc, ← HL.out]; exact congrArg (l ++ ·) HS2.out.symm, by rw [List.length_append]; simp; omega, by have := hown4; simpa using this, (HB.out.alloc HB.out.size _).grown hg4 (by have := HB.out.size; rw [World.size_alloc]; omega) (fun q hq => (HO.out.lt q hq).1)⟩)
          clear hown4 hg4 HO HB HL HS2
          go_wp2_with fail
          go_roundw
          case rel => exact ⟨k + 1, by omega, by go_num, HI4⟩
          case measure => simp [intOf]; omega
    · obtain rfl : k = s.size := by omega
      obtain ⟨l, hl, hlk, hown, hb⟩ := HI.out
      have e : s.data.toList.drop s.size = [] := List.drop_of_length_le (by rw [str_len]; omega)
      rw [e] at hl
      have hl2 : l = signsL s.data.toList := by rw [← hl]; simp [signsL]
      obtain ⟨A, c, rfl, hS⟩ := sl_of_own hown elC_len
      have HS := hide hS
      have HB := hide hb
      have HL2 := hide hl2
      clear hl2 hl hown hb hS HI
      go_wp2_with fail
      go_ret
      unfold GivesE
      rw [← HL2.out]
      exact ⟨A, c, rfl, HS.out, HB.out⟩
end Go.Proofs.Ytlkeghfdpbfhbaa
